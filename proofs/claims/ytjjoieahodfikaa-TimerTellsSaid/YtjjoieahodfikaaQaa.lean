/- Words for memory: nothing that was there has turned. -/
import Derived.Below
import Derived.Carry
import Derived.Laws.Rows
import Derived.Deep.Draws
import Derived.ChangeOld
import Derived.ChangeShapes
import Derived.OpenShut
import Derived.SizedLaws
import Derived.JoinedOf
import Derived.ProofKit
import Derived.Laws.BytesArg
import Derived.Laws.AppendOwn
import Derived.Laws.OwnMore
import Derived.Laws.MakeOwn
import Derived.Maps.AppendAt
import Derived.OwnWalk
import Derived.Deep.Slices
import Derived.Deep.Fields
import Derived.Laws.Slices
import Derived.ArgAppend
import Derived.Deep.MidRow
import Derived.WalkKit
import Derived.Test.YtjjoieahodfikaaProg
import Derived.WalkSpells
import Derived.Lib.Hide
import Derived.Deep.RegionHeld3
import Derived.Deep.AppendLies
import Derived.Deep.QuietTactic
import Derived.BigQuiet
import Derived.Tactics
namespace Go.Proofs.Ytjjoieahodfikaa
open Go.RowKit

/-- Nothing of what was there has turned; new blocks may lie behind. -/
def Keep (w w' : World) : Prop := Below w.heap.size w w'
namespace Keep
variable {W w w' : World}
theorem refl (w : World) : Keep w w := Below.refl _ _
theorem trans {a b c : World} (h : Keep a b) (k : Keep b c) : Keep a c := Below.trans h (Below.mono k (Below.size h))
theorem alloc (h : Keep W w) (c : Array Value) (t : TypeId) : Keep W (w.alloc (.cells c t)) := Below.alloc h (Below.size h) _
theorem allocMap (h : Keep W w) (es : Array MapEntry) (c : Nat) : Keep W (w.alloc (.map es c)) := Below.alloc h (Below.size h) _
theorem setCell (h : Keep W w) {a : Addr} (ha : W.heap.size ≤ a.block) (v : Value) : Keep W (w.setCell a v) := Below.setCell h ha v
theorem drew (h : Keep W w) : Keep W w.drew := Below.drew h
theorem drewN (h : Keep W w) (n : Nat) : Keep W (w.drewN n) := ⟨h.os, h.tape, h.output, h.size, h.block⟩
theorem grown {row : Option Nat} (h : Keep W w) (hg : w.grownBy w' row) (hr : ∀ k, row = some k → W.heap.size ≤ k) : Keep W w' := Below.grown h hg (Below.size h) hr
theorem block (h : Keep W w) (k : Nat) (hk : k < W.heap.size) : w.heap[k]? = W.heap[k]? := Below.block h k hk
theorem size (h : Keep W w) : W.heap.size ≤ w.heap.size := Below.size h
end Keep
end Go.Proofs.Ytjjoieahodfikaa
/- From a walk to a law's statement: a law that answers true and turns nothing that was there. -/
namespace Go.Proofs.Ytjjoieahodfikaa
open Go.ChangeShapes Go.WideShapes Go.ChangeAt Go.RowKit

section
variable {H : Type} {enc : TypeId × Value → H} {P : Program}

/-- The arguments read behind the call as they did before. -/
theorem args_kept (hl : laidOutB P = true) {W W' : World} (hb : Below W.heap.size W W') : ∀ {ts : List TypeId} {vs : List Value} {ds : List (DataW H)} {ps : List MemPlace},
    (∀ t ∈ ts, P.readableRec t = true ∧ t < P.types.size) → DataW.TrodAll enc P W 0 (fun _ => true) true ts vs ds ps → (∀ x ∈ ps, x.block < W.heap.size) →
    DataW.TrodAll enc P W' 0 (fun b => decide (b < W.heap.size)) true ts vs ds ps := by
  intro ts
  induction ts with
  | nil =>
    intro vs ds ps _ h _
    obtain ⟨rfl, rfl, rfl⟩ := trodAll_nil h
    exact trodAll_mk0
  | cons t ts ih =>
    intro vs ds ps hr h hlt
    obtain ⟨v, vs, d, ds, p, p', rfl, rfl, rfl, h0, h1⟩ := trodAll_cons h
    obtain ⟨r1, r2⟩ := hr t (by simp)
    exact trodAll_cons_mk (Below.trod hl r1 r2 h0 hb fun x hx => hlt x (by simp [hx])) (ih (fun t ht => hr t (by simp [ht])) h1 fun x hx => hlt x (by simp [hx]))

theorem args_length {W : World} {base : Nat} {sp : Nat → Bool} {held : Bool} : ∀ {ts : List TypeId} {vs : List Value} {ds : List (DataW H)} {ps : List MemPlace}, DataW.TrodAll enc P W base sp held ts vs ds ps → ds.length = ts.length := by
  intro ts
  induction ts with
  | nil =>
    intro vs ds ps h
    obtain ⟨rfl, rfl, rfl⟩ := trodAll_nil h
    rfl
  | cons t ts ih =>
    intro vs ds ps h
    obtain ⟨v, vs, d, ds, p, p', rfl, rfl, rfl, h0, h1⟩ := trodAll_cons h
    simp [ih h1]

/-- A law whose walk answers true and turns nothing that was there: what is handed over. -/
theorem law_handed {C : Checked} {os : Os} {f : FuncId} {fn : Func} {s : ChangeSpec}
    (own : ownKnob C.prog.godebug = none) (started : os.Started) (noInit : C.prog.inits.idxOf? f = none) (hfn : C.prog.funcs[f]? = some fn)
    (witness : ∃ (w : World) (tape : Tape) (i : Input), w.os = os ∧ (w.forCall tape i).Shaped C.prog ∧ i.vars = [] ∧ Input.okWide C.prog (w.forCall tape i) .any w.heap.size f i ∧
      s.pre6 enc C.prog fn [] false (w.forCall tape i).memory i.args ∧ ({} : Assume).holds C.prog (lone (Frame.enter C.prog f i.args .normal) [] (w.forCall tape i)))
    (hl : laidOutB C.prog = true) (hr : ∀ t ∈ fn.params.toList, C.prog.readableRec t = true ∧ t < C.prog.types.size) {tb : TypeId} (hres : fn.resultTypes = #[tb]) (htb : C.prog.underlying tb = some .bool)
    (hvars : s.vars = []) (hspec : ∀ ds : List (DataW H), ds.length = fn.params.size → s.fn H (ds ++ []) = { results := [.lit (.bool true)], args := ds })
    (walk : ∀ (W : World) (base : Nat) (args : Array Value) (ds : List (DataW H)) (p : List MemPlace),
      (∀ (j : Nat) t v, fn.params[j]? = some t → args[j]? = some v → Value.okWide C.prog W .any base t v) →
      DataW.TrodAll enc C.prog W 0 (fun _ => true) true fn.params.toList args.toList ds p →
      (DataW.weightsEach C.prog fn.params.toList ds).all (· ≤ reachBytes) = true →
      Calls C.prog f args W fun e W' => e = .returned (.bool true) ∧ Below W.heap.size W W') :
    ReturnsInHanded {} C os f .any (s.pre6 enc C.prog fn [] false) (s.post enc C.prog fn false true false false) := by
  refine returnsInHanded_of_change_sized own started noInit hfn witness ?_
  intro W base args ds gs before hval hW _ hsz _
  have hW' := hW
  obtain ⟨p, q, hA, hV, rfl, _, _⟩ := hW
  rw [hvars] at hV
  obtain ⟨rfl, rfl⟩ := trodVars_none hV
  have hty : s.plain.varTypes C.prog = [] := by
    show DataSpec.varTypes C.prog s.plain = []
    have h1 : s.plain.vars = [] := hvars
    unfold DataSpec.varTypes
    rw [h1]
    rfl
  rw [hty] at hsz
  simp only [List.append_nil] at hsz hW'
  have hlen : ds.length = fn.params.size := by simpa using args_length hA
  have hlt : ∀ x ∈ p, x.block < W.heap.size := DataW.TrodAll.lt hA
  refine (walk W base args ds p hval hA hsz).mono fun e W' ⟨he, bel⟩ => ?_
  subst he
  have hsp := hspec ds hlen
  refine ⟨_, rfl, ds, [], p, [], p, [], hW', ?_, ?_, ?_, bel.frame _, fun h => by cases h⟩
  · rw [hsp, hres]
    exact trodAll_mk1 (shut_bool htb _)
  · rw [hsp]
    exact args_kept hl bel hr hA hlt
  · rw [hsp, hvars]
    rfl
end
end Go.Proofs.Ytjjoieahodfikaa
/- Slices of bytes: what they hold, in memory that was there or is new; as strings. -/
namespace Go.Proofs.Ytjjoieahodfikaa
open Go.RowKit Go.ChangeShapes Go.WideShapes

/-- Bytes as cells. -/
def u8s (xs : List Nat) : List Value := xs.map fun x : Nat => Value.int .u8 (x : Int)
def AllB (xs : List Nat) : Prop := ∀ x ∈ xs, x < 256
theorem u8s_get (xs : List Nat) (i : Nat) : (u8s xs)[i]? = xs[i]?.map fun x : Nat => Value.int .u8 (x : Int) := by simp [u8s]
theorem AllB.at {xs : List Nat} (h : AllB xs) (i : Nat) (hi : i < xs.length) : xs[i] < 256 := h _ (List.getElem_mem hi)
theorem AllB.getD {xs : List Nat} (h : AllB xs) (i : Nat) : xs.getD i 0 < 256 := by
  rw [List.getD_eq_getElem?_getD]
  cases e : xs[i]? with
  | none => exact (by decide : 0 < 256)
  | some x => exact h x (List.mem_of_getElem? e)
theorem AllB.append {xs ys : List Nat} (h : AllB xs) (k : AllB ys) : AllB (xs ++ ys) := fun x hx => by
  rcases List.mem_append.1 hx with h1 | h1
  · exact h x h1
  · exact k x h1
theorem AllB.take {xs : List Nat} (h : AllB xs) (n : Nat) : AllB (xs.take n) := fun x hx => h x (List.mem_of_mem_take hx)

/-- A slice of n bytes at A, below block B: they are xs. -/
def Bytes (w : World) (B : Nat) (A : Option Addr) (n : Nat) (xs : List Nat) : Prop :=
  xs.length = n ∧ AllB xs ∧ (0 < n → ∃ b off, A = some ⟨b, off, none⟩ ∧ b < B ∧ ∀ i, i < n → w.cell? ⟨b, off + i, none⟩ = some (.int .u8 ((xs.getD i 0 : Nat) : Int)))
namespace Bytes
variable {w w' : World} {B B' n : Nat} {A : Option Addr} {xs : List Nat}
theorem length (h : Bytes w B A n xs) : xs.length = n := h.1
theorem all (h : Bytes w B A n xs) : AllB xs := h.2.1
theorem nil (w : World) (B : Nat) (A : Option Addr) : Bytes w B A 0 [] := ⟨rfl, fun _ h => by simp at h, fun h => absurd h (by omega)⟩
theorem below (h : Bytes w B A n xs) (k : Below B w w') : Bytes w' B A n xs := ⟨h.1, h.2.1, fun hn => by
  obtain ⟨b, off, e, hb, hc⟩ := h.2.2 hn
  exact ⟨b, off, e, hb, fun i hi => (k.cell (p := ⟨b, off + i, none⟩) hb).trans (hc i hi)⟩⟩
theorem keep (h : Bytes w B A n xs) (hB : B ≤ w.heap.size) (k : Keep w w') : Bytes w' B A n xs := h.below (Below.mono k hB)
theorem mono (h : Bytes w B A n xs) (hB : B ≤ B') : Bytes w B' A n xs := ⟨h.1, h.2.1, fun hn => by
  obtain ⟨b, off, e, hb, hc⟩ := h.2.2 hn
  exact ⟨b, off, e, by omega, hc⟩⟩
theorem at_ (h : Bytes w B A n xs) {k : Nat} (hk : k < n) : ∃ b off, A = some ⟨b, off, none⟩ ∧ b < B ∧ w.cell? ⟨b, off + k, none⟩ = some (.int .u8 ((xs.getD k 0 : Nat) : Int)) := by
  obtain ⟨b, off, e, hb, hc⟩ := h.2.2 (by omega)
  exact ⟨b, off, e, hb, hc k hk⟩
end Bytes

section
variable {P : Program}
end

/-- New memory: a slice of n bytes in a block from base on, which may be written. -/
def Own (w : World) (base : Nat) (e : TypeId) (A : Option Addr) (n c : Nat) (xs : List Nat) : Prop :=
  w.ownsRow base e 1 (.slice A n c) n (u8s xs) ∧ AllB xs
namespace Own
variable {w w' : World} {base n c : Nat} {e : TypeId} {A : Option Addr} {xs : List Nat}
theorem length (h : Own w base e A n c xs) : xs.length = n := by have := h.1.1; simpa [u8s] using this
theorem none_ (w : World) (base : Nat) (e : TypeId) : Own w base e none 0 0 [] := ⟨World.ownsRow_nil w base e 1, fun _ h => by simp at h⟩
/-- Where it lies. -/
theorem block (h : Own w base e A n c xs) (hn : 0 < n) : ∃ g, A = some ⟨g, 0, none⟩ ∧ base ≤ g ∧ g < w.heap.size := by
  rcases h.1.2 with ⟨hv, h0⟩ | ⟨g, cap, cur, hv, hg, hh, _⟩
  · omega
  · injection hv with h1 h2 h3
    exact ⟨g, h1, hg, (Array.getElem?_eq_some_iff.1 hh).1⟩
theorem bytes (h : Own w base e A n c xs) : Bytes w w.heap.size A n xs := by
  refine ⟨h.length, h.2, fun hn => ?_⟩
  obtain ⟨g, rfl, _, hlt⟩ := h.block hn
  refine ⟨g, 0, rfl, hlt, fun i hi => ?_⟩
  have hl : i < xs.length := by rw [h.length]; exact hi
  have hc := h.1.cells (g := g) rfl i (.int .u8 ((xs.getD i 0 : Nat) : Int)) (by rw [u8s_get]; simp [List.getD, hl])
  have ha : (⟨g, 0, none⟩ : Addr).add i = ⟨g, 0 + i, none⟩ := by unfold Addr.add; split <;> simp_all
  rwa [ha] at hc
theorem keep (h : Own w base e A n c xs) (k : Keep w w') : Own w' base e A n c xs :=
  ⟨h.1.kept (row := none) ⟨k.os, k.tape, k.output, k.size, fun i hi _ => k.block i hi⟩ (by
    cases hb : (Value.slice A n c).ownBlock with
    | none => exact Or.inl rfl
    | some g => exact Or.inr (by simp)), h.2⟩
end Own

theorem own_shape {w : World} {base e size n : Nat} {v : Value} {xs : List Value} (h : w.ownsRow base e size v n xs) : ∃ A c, v = .slice A n c := by
  rcases h.2 with ⟨rfl, rfl⟩ | ⟨g, cap, cur, rfl, _⟩
  · exact ⟨none, 0, rfl⟩
  · exact ⟨_, _, rfl⟩
theorem Bytes.cells {w : World} {B n b off : Nat} {xs : List Nat} (h : Bytes w B (some ⟨b, off, none⟩) n xs) (hn : 0 < n) : ∀ j u, (u8s xs)[j]? = some u → w.cell? ((⟨b, off, none⟩ : Addr).add j) = some u := by
  obtain ⟨b', off', e, _, hc⟩ := h.2.2 hn
  injection e with e
  injection e with e1 e2
  subst e1; subst e2
  intro j u hu
  rw [u8s_get] at hu
  have hj : j < xs.length := by
    rcases Nat.lt_or_ge j xs.length with hj | hj
    · exact hj
    · rw [List.getElem?_eq_none hj] at hu; cases hu
  have ha : (⟨b, off, none⟩ : Addr).add j = ⟨b, off + j, none⟩ := by unfold Addr.add; split <;> simp_all
  rw [ha, hc j (by rw [← h.1]; exact hj), ← hu]
  simp [List.getD, hj]

section
variable {P : Program}
/-- One byte in a block of its own. -/
theorem Bytes.one (w : World) (v : Nat) (hv : v < 256) (t : TypeId) : Bytes (w.alloc (.cells #[.int .u8 (v : Int)] t)) (w.heap.size + 1) (some ⟨w.heap.size, 0, none⟩) 1 [v] :=
  ⟨rfl, fun x hx => by simp at hx; omega, fun _ => ⟨w.heap.size, 0, rfl, by omega, fun i hi => by
    obtain rfl : i = 0 := by omega
    rw [cell_of_row _ _ _ _ _ _ (heap_alloc_new w _)]
    rfl⟩⟩
theorem Own.alloc {w : World} {base n c : Nat} {e : TypeId} {A : Option Addr} {xs : List Nat} (h : Own w base e A n c xs) (o : Obj) : Own (w.alloc o) base e A n c xs := ⟨h.1.alloc o, h.2⟩
theorem Own.drew {w : World} {base n c : Nat} {e : TypeId} {A : Option Addr} {xs : List Nat} (h : Own w base e A n c xs) : Own w.drew base e A n c xs := ⟨h.1, h.2⟩
theorem Bytes.drew {w : World} {B n : Nat} {A : Option Addr} {xs : List Nat} (h : Bytes w B A n xs) : Bytes w.drew B A n xs := h
end

theorem u8s_zeros (n : Nat) : u8s (List.replicate n 0) = List.replicate n (.int .u8 0) := by simp [u8s]
theorem AllB.zeros (n : Nat) : AllB (List.replicate n 0) := fun x hx => by rw [(List.mem_replicate.1 hx).2]; decide
theorem Own.made (w : World) (e : TypeId) (n : Nat) (hn : n ≤ 140737488355328) : Own (w.alloc (.cells (madeCells #[.int .u8 0] n) e)) w.heap.size e (some ⟨w.heap.size, 0, none⟩) n n (List.replicate n 0) := by
  refine ⟨?_, AllB.zeros n⟩
  have h := World.ownsRow_lit (w := w) (base := w.heap.size) (e := e) (size := 1) (madeCells #[.int .u8 0] n) n (Nat.le_refl _) (by unfold maxLen; omega) (by rw [size_madeCells]; omega)
  rwa [toList_madeCells_one, ← u8s_zeros] at h
/-- A slice literal. -/
theorem Own.lit (w : World) (e : TypeId) (n : Nat) (xs : List Nat) (cs : Array Value) (hc : cs = (u8s xs).toArray) (hl : xs.length = n) (hn : n ≤ 140737488355328) (hx : AllB xs) : Own (w.alloc (.cells cs e)) w.heap.size e (some ⟨w.heap.size, 0, none⟩) n n xs := by
  subst hc
  have h := World.ownsRow_lit (w := w) (base := w.heap.size) (e := e) (size := 1) (u8s xs).toArray n (Nat.le_refl _) (by unfold maxLen; omega) (by simp [u8s, hl])
  exact ⟨by simpa using h, hx⟩
theorem u8s_set (xs : List Nat) (i v : Nat) : (u8s xs).set i (.int .u8 (v : Int)) = u8s (xs.set i v) := by simp [u8s, List.map_set]
theorem AllB.set {xs : List Nat} (h : AllB xs) (i v : Nat) (hv : v < 256) : AllB (xs.set i v) := fun x hx => by
  rcases List.mem_or_eq_of_mem_set hx with h1 | h1
  · exact h x h1
  · rw [h1]; exact hv
/-- A store into new memory. -/
theorem Own.stored {w : World} {base e n c g i v : Nat} {xs : List Nat} (h : Own w base e (some ⟨g, 0, none⟩) n c xs) (hv : v < 256) : Own (w.setCell ⟨g, i, none⟩ (.int .u8 (v : Int))) base e (some ⟨g, 0, none⟩) n c (xs.set i v) :=
  ⟨by rw [← u8s_set]; exact (h.1.stored i _).1, h.2.set i v hv⟩
theorem Own.cell {w : World} {base e n c g i : Nat} {xs : List Nat} (h : Own w base e (some ⟨g, 0, none⟩) n c xs) (hi : i < n) : w.cell? ⟨g, i, none⟩ = some (.int .u8 ((xs.getD i 0 : Nat) : Int)) := by
  have hl : i < xs.length := by rw [h.length]; exact hi
  rw [h.1.cellAt i (by omega), u8s_get]
  simp [List.getD, hl]
theorem Bytes.alloc {w : World} {B n : Nat} {A : Option Addr} {xs : List Nat} (h : Bytes w B A n xs) (hB : B ≤ w.heap.size) (o : Obj) : Bytes (w.alloc o) B A n xs := h.below (Below.alloc (Below.refl _ _) hB o)
/-- A slice literal, its place said. -/
theorem Bytes.lit {w : World} {h : Nat} (hh : w.heap.size = h) (t : TypeId) (n : Nat) (xs : List Nat) (cs : Array Value) (hc : cs = (u8s xs).toArray) (hl : xs.length = n) (hn : n ≤ 140737488355328) (hx : AllB xs) : Bytes (w.alloc (.cells cs t)) (h + 1) (some ⟨h, 0, none⟩) n xs := by
  have hb := (Own.lit w t n xs cs hc hl hn hx).bytes
  rw [hh] at hb
  exact hb.mono (by simp [hh])
instance (xs : List Nat) : Decidable (AllB xs) := inferInstanceAs (Decidable (∀ x ∈ xs, x < 256))
end Go.Proofs.Ytjjoieahodfikaa
/- Arguments opened: slices of bytes, slices of slices of bytes. -/
namespace Go.Proofs.Ytjjoieahodfikaa
open Go.RowKit Go.ChangeShapes Go.WideShapes Go.Deep

/-- A slice of bytes as a value, and what it holds. -/
structure RowV where
  A : Option Addr
  n : Nat
  c : Nat
  xs : List Nat
def RowV.val (r : RowV) : Value := .slice r.A r.n r.c
/-- A slice of n slices of bytes at A, below block B. -/
def RowsAt (w : World) (B : Nat) (A : Option Addr) (n : Nat) (rs : List RowV) : Prop :=
  rs.length = n ∧ (∀ r ∈ rs, Bytes w B r.A r.n r.xs ∧ r.n ≤ 140737488351232 ∧ r.n ≤ r.c) ∧ (0 < n → ∃ b off, A = some ⟨b, off, none⟩ ∧ b < B ∧ ∀ i r, rs[i]? = some r → w.cell? ⟨b, off + i, none⟩ = some (.slice r.A r.n r.c))
theorem RowsAt.below {w w' : World} {B n : Nat} {A : Option Addr} {rs : List RowV} (h : RowsAt w B A n rs) (k : Below B w w') : RowsAt w' B A n rs :=
  ⟨h.1, fun r hr => ⟨(h.2.1 r hr).1.below k, (h.2.1 r hr).2⟩, fun hn => by
    obtain ⟨b, off, e, hb, hc⟩ := h.2.2 hn
    exact ⟨b, off, e, hb, fun i r hi => (k.cell (p := ⟨b, off + i, none⟩) hb).trans (hc i r hi)⟩⟩
theorem RowsAt.keep {w w' : World} {B n : Nat} {A : Option Addr} {rs : List RowV} (h : RowsAt w B A n rs) (hB : B ≤ w.heap.size) (k : Keep w w') : RowsAt w' B A n rs := h.below (Below.mono k hB)
theorem RowsAt.at_ {w : World} {B n : Nat} {A : Option Addr} {rs : List RowV} (h : RowsAt w B A n rs) {k : Nat} (hk : k < n) :
    ∃ b off r, A = some ⟨b, off, none⟩ ∧ b < B ∧ rs[k]? = some r ∧ w.cell? ⟨b, off + k, none⟩ = some (.slice r.A r.n r.c) ∧ Bytes w B r.A r.n r.xs ∧ r.n ≤ 140737488351232 ∧ r.n ≤ r.c := by
  obtain ⟨b, off, e, hb, hc⟩ := h.2.2 (by omega)
  have hl : k < rs.length := by rw [h.1]; exact hk
  have hr := List.getElem?_eq_getElem hl
  have hm := h.2.1 _ (List.getElem_mem hl)
  exact ⟨b, off, rs[k], e, hb, hr, hc k _ hr, hm.1, hm.2⟩
theorem RowsAt.alloc {w : World} {B n : Nat} {A : Option Addr} {rs : List RowV} (h : RowsAt w B A n rs) (hB : B ≤ w.heap.size) (o : Obj) : RowsAt (w.alloc o) B A n rs := h.below (Below.alloc (Below.refl _ _) hB o)
/-- A literal of slices, its place said. -/
theorem RowsAt.lit {w : World} {h : Nat} (hh : w.heap.size = h) (t : TypeId) (n : Nat) (rs : List RowV) (cs : Array Value) (hc : cs = (rs.map RowV.val).toArray) (hl : rs.length = n) (hr : ∀ r ∈ rs, Bytes w h r.A r.n r.xs ∧ r.n ≤ 140737488351232 ∧ r.n ≤ r.c) :
    RowsAt (w.alloc (.cells cs t)) (h + 1) (some ⟨h, 0, none⟩) n rs := by
  subst hh
  refine ⟨hl, fun r h1 => ⟨((hr r h1).1.alloc (Nat.le_refl _) _).mono (by omega), (hr r h1).2⟩, fun _ => ⟨_, 0, rfl, by omega, fun i r hi => ?_⟩⟩
  rw [cell_of_row _ _ _ _ _ _ (heap_alloc_new w _), hc, Nat.zero_add]
  simp [hi, RowV.val]

section
variable {H : Type} {enc : TypeId × Value → H} {P : Program} {W : World}

end
end Go.Proofs.Ytjjoieahodfikaa
/- Arguments opened: slices of structs whose fields are one cell each. -/
namespace Go.Proofs.Ytjjoieahodfikaa
open Go.RowKit Go.ChangeShapes Go.WideShapes Go.Deep

/-- A slice of n structs of k fields at A, below block B: field j of struct i is l i j. -/
def FieldsAt (w : World) (B : Nat) (A : Option Addr) (n k : Nat) (l : List (List Value)) : Prop :=
  l.length = n ∧ (∀ r ∈ l, r.length = k) ∧ (0 < n → ∃ b off, A = some ⟨b, off, none⟩ ∧ b < B ∧ ∀ (i : Nat) (r : List Value) (j : Nat) (v : Value), l[i]? = some r → r[j]? = some v → w.cell? ⟨b, off + (i * k + j), none⟩ = some v)
theorem FieldsAt.below {w w' : World} {B n k : Nat} {A : Option Addr} {l : List (List Value)} (h : FieldsAt w B A n k l) (kp : Below B w w') : FieldsAt w' B A n k l :=
  ⟨h.1, h.2.1, fun hn => by
    obtain ⟨b, off, e, hb, hc⟩ := h.2.2 hn
    exact ⟨b, off, e, hb, fun i r j v hi hj => (kp.cell (p := ⟨b, off + (i * k + j), none⟩) hb).trans (hc i r j v hi hj)⟩⟩
theorem FieldsAt.keep {w w' : World} {B n k : Nat} {A : Option Addr} {l : List (List Value)} (h : FieldsAt w B A n k l) (hB : B ≤ w.heap.size) (kp : Keep w w') : FieldsAt w' B A n k l := h.below (Below.mono kp hB)
section
variable {H : Type} {enc : TypeId × Value → H} {P : Program} {W : World}
end
end Go.Proofs.Ytjjoieahodfikaa
/- Slices of slices of bytes in new memory: appended to, as rows. -/
namespace Go.Proofs.Ytjjoieahodfikaa
open Go.RowKit

/-- New memory: a slice of slices in a block from base on. -/
def OwnRows (w : World) (base : Nat) (e : TypeId) (A : Option Addr) (n c : Nat) (rs : List RowV) : Prop :=
  w.ownsRow base e 1 (.slice A n c) n (rs.map RowV.val)
namespace OwnRows
variable {w w' : World} {base n c : Nat} {e : TypeId} {A : Option Addr} {rs : List RowV}
theorem length (h : OwnRows w base e A n c rs) : rs.length = n := by have := h.1; simpa using this
theorem none_ (w : World) (base : Nat) (e : TypeId) : OwnRows w base e none 0 0 [] := World.ownsRow_nil w base e 1
theorem keep (h : OwnRows w base e A n c rs) (k : Keep w w') : OwnRows w' base e A n c rs :=
  h.kept (row := none) ⟨k.os, k.tape, k.output, k.size, fun i hi _ => k.block i hi⟩ (by
    cases hb : (Value.slice A n c).ownBlock with
    | none => exact Or.inl rfl
    | some g => exact Or.inr (by simp))
theorem alloc (h : OwnRows w base e A n c rs) (o : Obj) : OwnRows (w.alloc o) base e A n c rs := World.ownsRow.alloc h o
theorem drew (h : OwnRows w base e A n c rs) : OwnRows w.drew base e A n c rs := h
/-- Where it lies. -/
theorem block (h : OwnRows w base e A n c rs) (hn : 0 < n) : ∃ g, A = some ⟨g, 0, none⟩ ∧ base ≤ g ∧ g < w.heap.size := by
  rcases h.2 with ⟨hv, h0⟩ | ⟨g, cap, cur, hv, hg, hh, _⟩
  · omega
  · injection hv with h1 h2 h3
    exact ⟨g, h1, hg, (Array.getElem?_eq_some_iff.1 hh).1⟩
end OwnRows
theorem Own.grown {w w' : World} {base n c : Nat} {e : TypeId} {A : Option Addr} {xs : List Nat} {row : Option Nat} (h : Own w base e A n c xs) (hg : w.grownBy w' row) (hn : (Value.slice A n c).ownBlock = none ∨ (Value.slice A n c).ownBlock ≠ row) : Own w' base e A n c xs :=
  ⟨h.1.kept hg hn, h.2⟩
section
variable {P : Program}
end
end Go.Proofs.Ytjjoieahodfikaa
/- Objects with footprints: what turns within a set of blocks; rows that lie in a set of blocks. -/
namespace Go.Proofs.Ytjjoieahodfikaa
open Go.RowKit
/-- Nothing outside of F has turned; new blocks may lie behind. -/
structure Turned (F : Nat → Prop) (w w' : World) : Prop where
  os : w'.os = w.os
  tape : w'.tape = w.tape
  output : w'.output = w.output
  size : w.heap.size ≤ w'.heap.size
  block : ∀ k, k < w.heap.size → ¬ F k → w'.heap[k]? = w.heap[k]?
namespace Turned
variable {F F' : Nat → Prop} {W w w' a b c : World}
theorem refl (F : Nat → Prop) (w : World) : Turned F w w := ⟨rfl, rfl, rfl, Nat.le_refl _, fun _ _ _ => rfl⟩
theorem of_keep (k : Keep w w') : Turned F w w' := ⟨k.os, k.tape, k.output, k.size, fun i hi _ => k.block i hi⟩
theorem of_grown {row : Option Nat} (k : w.grownBy w' row) (h : ∀ i, row = some i → F i) : Turned F w w' :=
  ⟨k.os, k.tape, k.output, k.size, fun i hi hn => k.block i hi fun e => hn (h i e.symm)⟩
theorem trans (h : Turned F a b) (k : Turned F' b c) (hF : ∀ i, F' i → F i ∨ a.heap.size ≤ i) : Turned F a c :=
  ⟨k.os.trans h.os, k.tape.trans h.tape, k.output.trans h.output, Nat.le_trans h.size k.size, fun i hi hn => (k.block i (Nat.lt_of_lt_of_le hi h.size) fun e => by
    rcases hF i e with e | e
    · exact hn e
    · omega).trans (h.block i hi hn)⟩
theorem mono (h : Turned F w w') (hF : ∀ i, i < w.heap.size → F i → F' i) : Turned F' w w' := ⟨h.os, h.tape, h.output, h.size, fun i hi hn => h.block i hi fun e => hn (hF i hi e)⟩
theorem keep (k : Turned F w w') (h : Keep W w) (hF : ∀ i, F i → W.heap.size ≤ i) : Keep W w' :=
  Below.trans h ⟨k.os, k.tape, k.output, k.size, fun i hi => k.block i (Nat.lt_of_lt_of_le hi h.size) fun e => by have := hF i e; omega⟩
theorem keep_new (k : Turned F w w') (hF : ∀ i, F i → w.heap.size ≤ i) : Keep w w' := k.keep (Keep.refl w) hF
theorem cell (k : Turned F w w') {p : Addr} {v : Value} (h : w.cell? p = some v) (hn : ¬ F p.block) : w'.cell? p = some v :=
  (World.cell?_of_block (k.block p.block (World.block_lt_of_cell? w p h) hn)).trans h
theorem set (w : World) (p : Addr) (v : Value) (h : F p.block) : Turned F w (w.setCell p v) :=
  ⟨rfl, rfl, rfl, by simp [World.setCell], fun i _ hi => Below.heap_setCell w p v i (fun e => hi (by rw [e]; exact h))⟩
/-- Of a block's row. -/
theorem owns {base n size : Nat} {e : TypeId} {v : Value} {xs : List Value} (h : w.ownsRow base e size v n xs) (k : Turned F w w') (hn : ∀ b, v.ownBlock = some b → ¬ F b) : w'.ownsRow base e size v n xs := by
  refine ⟨h.1, ?_⟩
  rcases h.2 with hv | ⟨g, cap, cur, hv, hb, hg, rest⟩
  · exact Or.inl hv
  · exact Or.inr ⟨g, cap, cur, hv, hb, (k.block g (Array.getElem?_eq_some_iff.1 hg).1 (hn g (by rw [hv]; rfl))).trans hg, rest⟩
end Turned
theorem Own.turned {F : Nat → Prop} {w w' : World} {base n c : Nat} {e : TypeId} {A : Option Addr} {xs : List Nat} (h : Own w base e A n c xs) (k : Turned F w w') (hn : ∀ b, (Value.slice A n c).ownBlock = some b → ¬ F b) : Own w' base e A n c xs :=
  ⟨k.owns h.1 hn, h.2⟩
theorem OwnRows.turned {F : Nat → Prop} {w w' : World} {base n c : Nat} {e : TypeId} {A : Option Addr} {rs : List RowV} (h : OwnRows w base e A n c rs) (k : Turned F w w') (hn : ∀ b, (Value.slice A n c).ownBlock = some b → ¬ F b) : OwnRows w' base e A n c rs :=
  k.owns h hn
/-- A row of bytes in blocks of F. -/
def LiesIn (w : World) (F : Nat → Prop) (r : RowV) : Prop :=
  r.xs.length = r.n ∧ AllB r.xs ∧ r.n ≤ r.c ∧ (0 < r.n → ∃ b off, r.A = some ⟨b, off, none⟩ ∧ F b ∧ ∀ i, i < r.n → w.cell? ⟨b, off + i, none⟩ = some (.int .u8 ((r.xs.getD i 0 : Nat) : Int)))
namespace LiesIn
variable {F F' G : Nat → Prop} {w w' : World} {r : RowV}
theorem bytes {B : Nat} (h : LiesIn w F r) (hB : ∀ b, F b → b < B) : Bytes w B r.A r.n r.xs := ⟨h.1, h.2.1, fun hp => by
  obtain ⟨b, off, e, hb, hc⟩ := h.2.2.2 hp
  exact ⟨b, off, e, hB b hb, hc⟩⟩
theorem turned (h : LiesIn w F r) (k : Turned G w w') (hd : ∀ b, F b → ¬ G b) : LiesIn w' F r := ⟨h.1, h.2.1, h.2.2.1, fun hp => by
  obtain ⟨b, off, e, hb, hc⟩ := h.2.2.2 hp
  exact ⟨b, off, e, hb, fun i hi => k.cell (hc i hi) (hd b hb)⟩⟩
theorem mono (h : LiesIn w F r) (hF : ∀ b, F b → F' b) : LiesIn w F' r := ⟨h.1, h.2.1, h.2.2.1, fun hp => by
  obtain ⟨b, off, e, hb, hc⟩ := h.2.2.2 hp
  exact ⟨b, off, e, hF b hb, hc⟩⟩
end LiesIn
theorem own_le' {w : World} {base n c : Nat} {e : TypeId} {A : Option Addr} {xs : List Nat} (h : Own w base e A n c xs) : n ≤ c := by
  rcases h.1.2 with ⟨hv, h0⟩ | ⟨g, cap, cur, hv, _, _, hle, _⟩
  · omega
  · injection hv with _ _ h3; omega
theorem Own.lies {w : World} {base n c : Nat} {e : TypeId} {A : Option Addr} {xs : List Nat} (h : Own w base e A n c xs) : LiesIn w (fun b => (Value.slice A n c).ownBlock = some b) ⟨A, n, c, xs⟩ :=
  ⟨h.length, h.2, own_le' h, fun hp => by
    obtain ⟨g, rfl, _, _⟩ := h.block hp
    refine ⟨g, 0, rfl, rfl, fun i hi => ?_⟩
    rw [Nat.zero_add]; exact h.cell hi⟩
/-- A slice of rows in blocks of F, its own block among them. -/
def RowsIn (w : World) (F : Nat → Prop) (A : Option Addr) (n : Nat) (rs : List RowV) : Prop :=
  rs.length = n ∧ (∀ r ∈ rs, LiesIn w F r) ∧ (0 < n → ∃ b off, A = some ⟨b, off, none⟩ ∧ F b ∧ ∀ i r, rs[i]? = some r → w.cell? ⟨b, off + i, none⟩ = some r.val)
namespace RowsIn
variable {F F' G : Nat → Prop} {w w' : World} {A : Option Addr} {n : Nat} {rs : List RowV}
theorem turned (h : RowsIn w F A n rs) (k : Turned G w w') (hd : ∀ b, F b → ¬ G b) : RowsIn w' F A n rs := ⟨h.1, fun r hr => (h.2.1 r hr).turned k hd, fun hp => by
  obtain ⟨b, off, e, hb, hc⟩ := h.2.2 hp
  exact ⟨b, off, e, hb, fun i r hi => k.cell (hc i r hi) (hd b hb)⟩⟩
theorem mono (h : RowsIn w F A n rs) (hF : ∀ b, F b → F' b) : RowsIn w F' A n rs := ⟨h.1, fun r hr => (h.2.1 r hr).mono hF, fun hp => by
  obtain ⟨b, off, e, hb, hc⟩ := h.2.2 hp
  exact ⟨b, off, e, hF b hb, hc⟩⟩
theorem at_ (h : RowsIn w F A n rs) {k : Nat} (hk : k < n) : ∃ b off r, A = some ⟨b, off, none⟩ ∧ F b ∧ rs[k]? = some r ∧ w.cell? ⟨b, off + k, none⟩ = some (.slice r.A r.n r.c) ∧ LiesIn w F r := by
  obtain ⟨b, off, e, hb, hc⟩ := h.2.2 (by omega)
  have hl : k < rs.length := by rw [h.1]; exact hk
  exact ⟨b, off, rs[k], e, hb, List.getElem?_eq_getElem hl, hc k _ (List.getElem?_eq_getElem hl), h.2.1 _ (List.getElem_mem hl)⟩
end RowsIn
/-- The address of a slice cut at its head. -/
def dropA (A : Option Addr) (c s : Nat) : Option Addr := if c = s then A else A.map (·.add s)
theorem dropA_some (b off c s : Nat) (h : s < c) : dropA (some ⟨b, off, none⟩) c s = some ⟨b, off + s, none⟩ := by
  rw [dropA, if_neg (by omega)]
  simp only [Option.map_some, Addr.add]
  split <;> simp_all
theorem RowsIn.drop {F : Nat → Prop} {w : World} {A : Option Addr} {n c s : Nat} {rs : List RowV} (h : RowsIn w F A n rs) (hc : n ≤ c) : RowsIn w F (dropA A c s) (n - s) (rs.drop s) := by
  refine ⟨by rw [List.length_drop, h.1], fun r hr => h.2.1 r (List.mem_of_mem_drop hr), fun hp => ?_⟩
  obtain ⟨b, off, rfl, hb, hcell⟩ := h.2.2 (by omega)
  refine ⟨b, off + s, dropA_some b off c s (by omega), hb, fun i r hi => ?_⟩
  rw [List.getElem?_drop] at hi
  rw [Nat.add_assoc]; exact hcell (s + i) r hi
end Go.Proofs.Ytjjoieahodfikaa
/- Arguments that are slices of numbers of 16 or 32 bits, or of stage 17's calls. -/
namespace Go.Proofs.Ytjjoieahodfikaa
open Go.RowKit Go.ChangeShapes Go.WideShapes Go.Deep
set_option linter.unusedVariables false
set_option linter.unusedSimpArgs false
/-- A slice of n numbers of kind q at A, below block B: they are l. -/
def KsIn (q : IntKind) (w : World) (B : Nat) (A : Option Addr) (n : Nat) (l : List Nat) : Prop :=
  l.length = n ∧ (0 < n → ∃ b off, A = some ⟨b, off, none⟩ ∧ b < B ∧ ∀ (i x : Nat), l[i]? = some x → w.cell? ⟨b, off + i, none⟩ = some (.int q (x : Int)))
/-- One of them, in all later worlds. -/
theorem KsIn.one {q : IntKind} {w : World} {A : Option Addr} {n j : Nat} {l : List Nat} (h : KsIn q w w.heap.size A n l) (hj : j < n) :
    ∃ (b off x : Nat), A = some ⟨b, off, none⟩ ∧ b < w.heap.size ∧ l[j]? = some x ∧ ∀ wx, Keep w wx → wx.cell? ⟨b, off + j, none⟩ = some (.int q (x : Int)) := by
  obtain ⟨b, off, rfl, hb, hc⟩ := h.2 (by omega)
  have hl := List.getElem?_eq_getElem (l := l) (i := j) (by rw [h.1]; exact hj)
  exact ⟨b, off, _, rfl, hb, hl, fun wx kx => (Below.cell (B := w.heap.size) kx (show b < w.heap.size by omega)).trans (hc j _ hl)⟩
/-- A call of timers. -/
structure OpT where
  what : Int
  name : Int
  num : Nat
/-- A slice of n calls at A, below block B. -/
def OpsT (w : World) (B : Nat) (A : Option Addr) (n : Nat) (l : List OpT) : Prop :=
  l.length = n ∧ (∀ a ∈ l, a.num < 18446744073709551616 ∧ -9223372036854775808 ≤ a.name ∧ a.name ≤ 9223372036854775807) ∧
  (0 < n → ∃ b off, A = some ⟨b, off, none⟩ ∧ b < B ∧ ∀ i a, l[i]? = some a → w.cell? ⟨b, off + i * 3, none⟩ = some (.int .i64 a.what) ∧ w.cell? ⟨b, off + i * 3 + 1, none⟩ = some (.int .i64 a.name) ∧ w.cell? ⟨b, off + i * 3 + 2, none⟩ = some (.int .u64 (a.num : Int)))
theorem OpsT.one {w : World} {A : Option Addr} {m j : Nat} {l : List OpT} (h : OpsT w w.heap.size A m l) (hj : j < m) :
    ∃ (b off : Nat) (a : OpT), A = some ⟨b, off, none⟩ ∧ b < w.heap.size ∧ l[j]? = some a ∧ (∀ wx, Keep w wx → wx.cell? ⟨b, off + j * 3, none⟩ = some (.int .i64 a.what) ∧ wx.cell? ⟨b, off + j * 3 + 1, none⟩ = some (.int .i64 a.name) ∧ wx.cell? ⟨b, off + j * 3 + 2, none⟩ = some (.int .u64 (a.num : Int))) ∧
      a.num < 18446744073709551616 ∧ -9223372036854775808 ≤ a.name ∧ a.name ≤ 9223372036854775807 := by
  obtain ⟨b, off, rfl, hb, hc⟩ := h.2.2 (by omega)
  have hl := List.getElem?_eq_getElem (l := l) (i := j) (by rw [h.1]; exact hj)
  have hk : ∀ wx, Keep w wx → ∀ o v, w.cell? ⟨b, o, none⟩ = some v → wx.cell? ⟨b, o, none⟩ = some v := fun wx kx o v hv => (Below.cell (B := w.heap.size) kx (show b < w.heap.size by omega)).trans hv
  obtain ⟨c0, c1, c2⟩ := hc j _ hl
  exact ⟨b, off, _, rfl, hb, hl, fun wx kx => ⟨hk wx kx _ _ c0, hk wx kx _ _ c1, hk wx kx _ _ c2⟩, h.2.1 _ (List.mem_of_getElem? hl)⟩
theorem tu16_wf {a : Int} (h : (Lit.int .u16 a).wf = true) : ∃ n : Nat, a = n ∧ n < 65536 := by
  have h2 : 0 ≤ a ∧ a ≤ 65535 := by simpa [Lit.wf, IntKind.min, IntKind.max, IntKind.signed, IntKind.bits] using h
  obtain ⟨n, rfl⟩ := Int.eq_ofNat_of_zero_le h2.1
  exact ⟨n, rfl, by omega⟩
theorem tu32_wf {a : Int} (h : (Lit.int .u32 a).wf = true) : ∃ n : Nat, a = n ∧ n < 4294967296 := by
  have h2 : 0 ≤ a ∧ a ≤ 4294967295 := by simpa [Lit.wf, IntKind.min, IntKind.max, IntKind.signed, IntKind.bits] using h
  obtain ⟨n, rfl⟩ := Int.eq_ofNat_of_zero_le h2.1
  exact ⟨n, rfl, by omega⟩
section
variable {H : Type} {enc : TypeId × Value → H} {P : Program} {W : World}
theorem arg_ks {q : IntKind} {M : Nat} (hq : ∀ a : Int, (Lit.int q a).wf = true → ∃ n : Nat, a = n ∧ n < M) {t e : TypeId} (ht : P.underlying t = some (.slice e)) (he : P.underlying e = some (.int q)) (hc : P.cellsOf e = 1) (hb : 1 ≤ P.bytesOf e)
    {ts : List TypeId} {ds : List (DataW H)} (hsz : (DataW.weightsEach P ts ds).all (· ≤ reachBytes) = true) {j : Nat} (hj : ts[j]? = some t) {v : Value} {d : DataW H} {p : List MemPlace} (hd : ds[j]? = some d)
    {base : Nat} (hv : Value.okWide P W .any base t v) (h : DataW.Trod enc P W 0 (fun _ => true) true t v d p) :
    ∃ (A : Option Addr) (n c : Nat) (l : List Nat), v = .slice A n c ∧ KsIn q W W.heap.size A n l ∧ (∀ z ∈ l, z < M) ∧ n ≤ 140737488351232 ∧ n ≤ c := by
  obtain ⟨A, n, c, rfl⟩ := okWide_slice ht hv
  obtain ⟨fuel, hf⟩ := h
  have hs : ∀ k ∈ d.weights P t, k ≤ reachBytes := fun k hk => by
    have := List.all_eq_true.1 hsz k (DataW.weights_mem_each hj hd k hk)
    simpa using this
  rcases open_ints ht he hc (by simpa [Value.cells] using hf) with ⟨hcs, _⟩ | ⟨a, len, cap, zs, hcs, _, hl, hm, hz, hx, hcell, hwz⟩
  · simp at hcs
    obtain ⟨rfl, rfl, rfl⟩ := hcs
    exact ⟨none, 0, 0, [], rfl, ⟨rfl, fun h => absurd h (by omega)⟩, fun z hz => by simp at hz, by omega, Nat.le_refl _⟩
  · simp at hcs
    obtain ⟨rfl, rfl, rfl⟩ := hcs
    have hz' : zs.length = c := by simpa using hz
    simp only [Prod.mk.injEq] at hx
    obtain ⟨hde, _⟩ := hx
    have hr : reachBytes = 140737488351232 := by decide
    have hsz2 : c ≤ reachBytes := by
      have h1 := hs (((lits q (zs.take n) : List (DataW H)).length + (lits q (zs.drop n) : List (DataW H)).length) * P.bytesOf e) (by rw [hde]; simp [DataW.weights, ht])
      simp only [lits, List.length_map, List.length_take, List.length_drop] at h1
      have h2 : c * 1 ≤ (min n zs.length + (zs.length - n)) * P.bytesOf e := Nat.mul_le_mul (by omega) hb
      omega
    refine ⟨some a, n, c, (zs.take n).map Int.toNat, rfl, ⟨by rw [List.length_map, List.length_take]; omega, fun hn => ?_⟩, fun z hz2 => ?_, by omega, by omega⟩
    · obtain ⟨b, off, spot⟩ := a
      have h0 := hcell 0 (by omega)
      have hspot : spot = none := by simpa [Addr.add] using World.cell?_spot h0
      subst hspot
      refine ⟨b, off, rfl, World.block_lt_of_cell? W _ (show W.cell? ⟨b, off, none⟩ = _ by simpa [Addr.add] using h0), fun i x hi => ?_⟩
      rw [List.getElem?_map, List.getElem?_take] at hi
      split at hi
      · rename_i hin
        have h1 := hcell i (by omega)
        have ha : (⟨b, off, none⟩ : Addr).add i = ⟨b, off + i, none⟩ := by unfold Addr.add; split <;> simp_all
        rw [ha] at h1
        rw [h1, List.getD_eq_getElem?_getD]
        have hil : i < zs.length := by omega
        rw [List.getElem?_eq_getElem hil] at hi ⊢
        obtain ⟨y, hy, _⟩ := hq _ (hwz _ (List.getElem_mem hil))
        have hi : (zs[i]).toNat = x := by simpa using hi
        subst hi
        show some (Value.int q zs[i]) = _
        rw [hy]; simp
      · cases hi
    · obtain ⟨y, hy, rfl⟩ := List.mem_map.1 hz2
      obtain ⟨k, hk, hM⟩ := hq y (hwz y (List.mem_of_mem_take hy))
      rw [hk]; simpa using hM
end
end Go.Proofs.Ytjjoieahodfikaa
/- Slices of structs of one's own, of any size: read, appended to, cut. -/
namespace Go.Proofs.Ytjjoieahodfikaa
open Go.RowKit
set_option linter.unusedVariables false
set_option linter.unusedSimpArgs false
/-- A struct's cells: k of them, each a cell. -/
structure Laid {α : Type} (vals : α → List Value) (k : Nat) : Prop where
  size : ∀ a, (vals a).length = k
  one : ∀ a, ∀ u ∈ vals a, u.oneCell' = true
section
variable {α : Type} {vals : α → List Value} {k : Nat}
theorem Laid.len (L : Laid vals k) (ps : List α) : (ps.flatMap vals).length = ps.length * k := by
  induction ps with
  | nil => simp
  | cons p ps ih => rw [List.flatMap_cons, List.length_append, ih, L.size, List.length_cons, Nat.succ_mul]; omega
theorem Laid.at_ (L : Laid vals k) : ∀ (ps : List α) (i : Nat) (p : α), ps[i]? = some p → ∀ j u, (vals p)[j]? = some u → (ps.flatMap vals)[i * k + j]? = some u
  | [], i, p, h => by simp at h
  | q :: ps, 0, p, h => by
    intro j u hj
    simp at h
    subst h
    have hs := L.size q
    rw [List.flatMap_cons, List.getElem?_append_left (by have := (List.getElem?_eq_some_iff.1 hj).1; omega)]
    rw [show 0 * k + j = j by omega]; exact hj
  | q :: ps, i + 1, p, h => by
    intro j u hj
    have ih := L.at_ ps i p (by simpa using h) j u hj
    have hs := L.size q
    rw [List.flatMap_cons, List.getElem?_append_right (by rw [hs, Nat.succ_mul]; omega), hs, show (i + 1) * k + j - k = i * k + j by rw [Nat.succ_mul]; omega]
    exact ih
/-- New memory: a slice of structs whose cells, its spare ones too, may be written. -/
structure SAt (vals : α → List Value) (k : Nat) (w : World) (base : Nat) (A : Option Addr) (n c : Nat) (ws : List α) : Prop where
  length : ws.length = n
  cap : n ≤ c ∧ c ≤ maxLen
  lies : (A = none ∧ c = 0) ∨ ∃ g off, A = some ⟨g, off, none⟩ ∧ base ≤ g ∧ g < w.heap.size ∧ (∀ j u, (ws.flatMap vals)[j]? = some u → w.cell? ⟨g, off + j, none⟩ = some u) ∧ ∀ j, j < c * k → (w.cell? ⟨g, off + j, none⟩).isSome = true ∧ w.frozen? ⟨g, off + j, none⟩ = false
namespace SAt
variable {w w' : World} {base n c : Nat} {A : Option Addr} {ws : List α}
theorem block (h : SAt vals k w base A n c ws) : ∀ b, (Value.slice A n c).ownBlock = some b → base ≤ b ∧ b < w.heap.size := fun b hb => by
  rcases h.lies with ⟨rfl, _⟩ | ⟨g, off, rfl, h1, h2, _⟩
  · simp [Value.ownBlock] at hb
  · simp [Value.ownBlock] at hb; subst hb; exact ⟨h1, h2⟩
theorem turned {G : Nat → Prop} (h : SAt vals k w base A n c ws) (t : Turned G w w') (hn : ∀ b, (Value.slice A n c).ownBlock = some b → ¬ G b) : SAt vals k w' base A n c ws := by
  refine ⟨h.length, h.cap, ?_⟩
  rcases h.lies with e | ⟨g, off, rfl, h1, h2, h3, h4⟩
  · exact Or.inl e
  · have hb := t.block g h2 (hn g rfl)
    exact Or.inr ⟨g, off, rfl, h1, Nat.lt_of_lt_of_le h2 t.size, fun j u hu => by rw [World.cell?_of_block (w := w) hb]; exact h3 j u hu, fun j hj => by rw [World.cell?_of_block (w := w) hb, World.frozen?_of_block (w := w) hb]; exact h4 j hj⟩
theorem keep (h : SAt vals k w base A n c ws) (t : Keep w w') : SAt vals k w' base A n c ws := h.turned (Turned.of_keep (F := fun _ => False) t) fun _ _ e => e
/-- One of them. -/
theorem at_ (L : Laid vals k) (h : SAt vals k w base A n c ws) {i : Nat} (hi : i < n) : ∃ g off p, A = some ⟨g, off, none⟩ ∧ base ≤ g ∧ g < w.heap.size ∧ ws[i]? = some p ∧ ∀ j u, (vals p)[j]? = some u → w.cell? ⟨g, off + i * k + j, none⟩ = some u := by
  have hl := List.getElem?_eq_getElem (l := ws) (i := i) (by rw [h.length]; exact hi)
  rcases h.lies with ⟨_, hc⟩ | ⟨g, off, rfl, h1, h2, h3, h4⟩
  · have := h.cap; omega
  · exact ⟨g, off, _, rfl, h1, h2, hl, fun j u hu => by rw [Nat.add_assoc]; exact h3 _ _ (L.at_ ws i _ hl j u hu)⟩
end SAt
theorem run_head_sa {P : Program} {t : TypeId} {bytes : Nat} {z : Value} (ht : P.underlying t = some (.slice (P.elem t))) (hi : (P.info? (P.elem t)).map (fun i => (i.zero, i.size, i.bytes)) = some (some z, k, bytes)) (n c s : Nat) (A : Option Addr) (hs : s ≤ c) (w : World) :
    (Instr.slice t (.slice A n c) none (some (.int .i64 (s : Int))) none).run P w = .ok (.slice A s c) w := by
  obtain ⟨i0, hi0, hz0, hz1, hz2⟩ := info_parts hi
  rw [run_slice_h (P := P) (w := w) t A n c ht .i64 s (by omega) (by omega)]
  have ha : A.map (fun x : Addr => x.add 0) = A := by
    cases A with
    | none => rfl
    | some a =>
      obtain ⟨b, off, spot⟩ := a
      simp [Addr.add]
  simp [sizeOf, typeInfo, hi0, hz1, sliced]
  intros; exact ha
end
end Go.Proofs.Ytjjoieahodfikaa
/- Timers plainly: alarms by rising names, what is due in order, what is due anew. -/
namespace Go.Proofs.Ytjjoieahodfikaa.Tmr
set_option linter.unusedVariables false
structure Alarm where
  name : Nat
  every : Nat
  due : Nat
/-- The last time. -/
def maxT : Nat := 1099511627776
def later (c e : Nat) : Nat := min (c + e) maxT
/-- By rising names. -/
def Rising (l : List Alarm) : Prop := l.Pairwise fun a b => a.name < b.name
/-- Ahead of: by rising times, of one time by rising names. -/
def Ahead (a b : Alarm) : Prop := a.due < b.due ∨ (a.due = b.due ∧ a.name < b.name)
theorem Ahead.trans {a b c : Alarm} (h : Ahead a b) (k : Ahead b c) : Ahead a c := by unfold Ahead at *; omega
theorem Ahead.irrefl (a : Alarm) : ¬ Ahead a a := by unfold Ahead; omega
/-- In order. -/
def Ordered (l : List Alarm) : Prop := l.Pairwise Ahead
/-- Set: in between. -/
def setL (a : Alarm) : List Alarm → List Alarm
  | [] => [a]
  | b :: r => if b.name < a.name then b :: setL a r else a :: b :: r
def stopL (n : Nat) (l : List Alarm) : List Alarm := l.filter fun a => decide (a.name ≠ n)
def anew (c : Nat) (a : Alarm) : Alarm := ⟨a.name, a.every, later c a.every⟩
def againL (c n : Nat) (l : List Alarm) : List Alarm := l.map fun a => if a.name = n then anew c a else a
/-- What is due, put in one by one. -/
def putDue (a : Alarm) : List Alarm → List Alarm
  | [] => [a]
  | b :: r => if b.due ≤ a.due then b :: putDue a r else a :: b :: r
def dueL (c : Nat) (l : List Alarm) : List Alarm := l.foldl (fun d a => if c < a.due then d else putDue a d) []
def tickL (c : Nat) (l : List Alarm) : List Alarm := l.map fun a => if a.due ≤ c then anew c a else a
def isIn (n : Nat) (l : List Alarm) : Prop := ∃ a ∈ l, a.name = n
theorem mem_setL {a x : Alarm} : ∀ {l : List Alarm}, x ∈ setL a l ↔ x = a ∨ x ∈ l
  | [] => by simp [setL]
  | b :: r => by
    unfold setL
    split
    · rw [List.mem_cons, mem_setL (l := r), List.mem_cons]
      constructor
      · rintro (h | h | h)
        · exact Or.inr (Or.inl h)
        · exact Or.inl h
        · exact Or.inr (Or.inr h)
      · rintro (h | h | h)
        · exact Or.inr (Or.inl h)
        · exact Or.inl h
        · exact Or.inr (Or.inr h)
    · simp
theorem rising_setL {a : Alarm} : ∀ {l : List Alarm}, Rising l → ¬ isIn a.name l → Rising (setL a l)
  | [], _, _ => by simp [setL, Rising]
  | b :: r, h, hn => by
    unfold Rising at h
    rw [List.pairwise_cons] at h
    have hr : ¬ isIn a.name r := fun ⟨x, hx, e⟩ => hn ⟨x, List.mem_cons_of_mem _ hx, e⟩
    have hb : b.name ≠ a.name := fun e => hn ⟨b, List.mem_cons_self, e⟩
    unfold setL
    split
    · rename_i hlt
      refine List.pairwise_cons.2 ⟨fun x hx => ?_, rising_setL h.2 hr⟩
      rcases mem_setL.1 hx with rfl | hx
      · exact hlt
      · exact h.1 x hx
    · refine List.pairwise_cons.2 ⟨fun x hx => ?_, List.pairwise_cons.2 h⟩
      rcases List.mem_cons.1 hx with rfl | hx
      · omega
      · have := h.1 x hx; omega
theorem rising_map {l : List Alarm} (f : Alarm → Alarm) (hf : ∀ a, (f a).name = a.name) (h : Rising l) : Rising (l.map f) := by
  unfold Rising
  rw [List.pairwise_map]
  exact h.imp fun {a b} hab => by rw [hf, hf]; exact hab
theorem rising_againL {c n : Nat} {l : List Alarm} (h : Rising l) : Rising (againL c n l) := rising_map _ (fun a => by split <;> rfl) h
theorem putDue_perm (a : Alarm) : ∀ l : List Alarm, (putDue a l).Perm (a :: l)
  | [] => List.Perm.refl _
  | b :: r => by
    unfold putDue
    split
    · exact ((putDue_perm a r).cons b).trans (List.Perm.swap a b r)
    · exact List.Perm.refl _
theorem putDue_ordered {a : Alarm} : ∀ {l : List Alarm}, Ordered l → (∀ b ∈ l, b.name < a.name) → Ordered (putDue a l)
  | [], _, _ => by simp [putDue, Ordered]
  | b :: r, h, hn => by
    unfold Ordered at h
    rw [List.pairwise_cons] at h
    unfold putDue
    split
    · rename_i hle
      refine List.pairwise_cons.2 ⟨fun x hx => ?_, putDue_ordered h.2 fun y hy => hn y (List.mem_cons_of_mem _ hy)⟩
      rcases List.mem_cons.1 ((putDue_perm a r).mem_iff.1 hx) with rfl | hx
      · have := hn b List.mem_cons_self
        unfold Ahead; omega
      · exact h.1 x hx
    · rename_i hle
      refine List.pairwise_cons.2 ⟨fun x hx => ?_, List.pairwise_cons.2 h⟩
      rcases List.mem_cons.1 hx with rfl | hx
      · unfold Ahead; omega
      · have := h.1 x hx
        unfold Ahead at *; omega
theorem due_go (c : Nat) : ∀ (l d : List Alarm), Rising l → Ordered d → (∀ b ∈ d, ∀ a ∈ l, b.name < a.name) →
    Ordered (l.foldl (fun d a => if c < a.due then d else putDue a d) d) ∧ (l.foldl (fun d a => if c < a.due then d else putDue a d) d).Perm (d ++ l.filter fun a => decide (a.due ≤ c))
  | [], d, _, h, _ => ⟨h, by simp⟩
  | a :: r, d, hl, h, hb => by
    unfold Rising at hl
    rw [List.pairwise_cons] at hl
    rw [List.foldl_cons]
    by_cases hc : c < a.due
    · rw [if_pos hc]
      have ih := due_go c r d hl.2 h fun b hbm x hx => hb b hbm x (List.mem_cons_of_mem _ hx)
      rw [List.filter_cons, if_neg (by simp; omega)]
      exact ih
    · rw [if_neg hc]
      have ih := due_go c r (putDue a d) hl.2 (putDue_ordered h fun b hbm => hb b hbm a List.mem_cons_self) fun b hbm x hx => by
        rcases List.mem_cons.1 ((putDue_perm a d).mem_iff.1 hbm) with rfl | hbm
        · exact hl.1 x hx
        · exact hb b hbm x (List.mem_cons_of_mem _ hx)
      rw [List.filter_cons, if_pos (by simp; omega)]
      refine ⟨ih.1, ih.2.trans ?_⟩
      exact ((putDue_perm a d).append_right _).trans List.perm_middle.symm
theorem dueL_ordered {c : Nat} {l : List Alarm} (h : Rising l) : Ordered (dueL c l) := (due_go c l [] h List.Pairwise.nil (fun b hb => by cases hb)).1
theorem dueL_perm {c : Nat} {l : List Alarm} (h : Rising l) : (dueL c l).Perm (l.filter fun a => decide (a.due ≤ c)) := by
  have := (due_go c l [] h List.Pairwise.nil (fun b hb => by cases hb)).2
  rwa [List.nil_append] at this
theorem mem_dueL {c : Nat} {l : List Alarm} (h : Rising l) {a : Alarm} : a ∈ dueL c l ↔ a ∈ l ∧ a.due ≤ c := by
  rw [(dueL_perm h).mem_iff, List.mem_filter]; simp
/-- Each of what is due, anew, one behind the other: all of them at once. -/
theorem again_fold (c : Nat) : ∀ (d l : List Alarm), d.foldl (fun l a => againL c a.name l) l = l.map fun x => if ∃ a ∈ d, a.name = x.name then anew c x else x
  | [], l => by simp
  | a :: d, l => by
    rw [List.foldl_cons, again_fold c d]
    unfold againL
    rw [List.map_map]
    refine List.map_congr_left fun x _ => ?_
    simp only [Function.comp]
    by_cases h1 : x.name = a.name
    · rw [if_pos h1, if_pos (c := ∃ b ∈ a :: d, b.name = x.name) ⟨a, List.mem_cons_self, h1.symm⟩]
      split <;> rfl
    · rw [if_neg h1]
      by_cases h2 : ∃ b ∈ d, b.name = x.name
      · rw [if_pos h2]
        obtain ⟨b, hb, e⟩ := h2
        rw [if_pos ⟨b, List.mem_cons_of_mem _ hb, e⟩]
      · rw [if_neg h2, if_neg]
        rintro ⟨b, hb, e⟩
        rcases List.mem_cons.1 hb with rfl | hb
        · exact h1 e.symm
        · exact h2 ⟨b, hb, e⟩
theorem rising_inj {l : List Alarm} (h : Rising l) {a b : Alarm} (ha : a ∈ l) (hb : b ∈ l) (e : a.name = b.name) : a = b := by
  induction l with
  | nil => cases ha
  | cons x l ih =>
    unfold Rising at h
    rw [List.pairwise_cons] at h
    rcases List.mem_cons.1 ha with h1 | ha <;> rcases List.mem_cons.1 hb with h2 | hb
    · rw [h1, h2]
    · have := h.1 b hb; rw [← h1] at this; omega
    · have := h.1 a ha; rw [← h2] at this; omega
    · exact ih h.2 ha hb
theorem tick_fold {c : Nat} {l : List Alarm} (h : Rising l) : (dueL c l).foldl (fun l a => againL c a.name l) l = tickL c l := by
  rw [again_fold]
  refine List.map_congr_left fun x hx => ?_
  by_cases hd : x.due ≤ c
  · rw [if_pos hd, if_pos ⟨x, (mem_dueL h).2 ⟨hx, hd⟩, rfl⟩]
  · rw [if_neg hd, if_neg]
    rintro ⟨a, ha, e⟩
    obtain ⟨h1, h2⟩ := (mem_dueL h).1 ha
    obtain rfl := rising_inj h h1 hx e
    exact hd h2
/-- The least time at which an alarm is due. -/
def nextL : List Alarm → Nat
  | [] => 0
  | [a] => a.due
  | a :: b :: r => min a.due (nextL (b :: r))
theorem nextL_le : ∀ {l : List Alarm} {a : Alarm}, a ∈ l → nextL l ≤ a.due
  | [b], a, h => by simp at h; subst h; exact Nat.le_refl _
  | b :: x :: r, a, h => by
    rcases List.mem_cons.1 h with rfl | h
    · exact Nat.min_le_left _ _
    · exact Nat.le_trans (Nat.min_le_right _ _) (nextL_le h)
theorem nextL_mem : ∀ {l : List Alarm}, l ≠ [] → ∃ a ∈ l, a.due = nextL l
  | [], h => absurd rfl h
  | [b], _ => ⟨b, List.mem_cons_self, rfl⟩
  | b :: x :: r, _ => by
    obtain ⟨a, ha, e⟩ := nextL_mem (l := x :: r) (by simp)
    show ∃ a ∈ b :: x :: r, a.due = min b.due (nextL (x :: r))
    by_cases h : b.due ≤ nextL (x :: r)
    · exact ⟨b, List.mem_cons_self, by omega⟩
    · exact ⟨a, List.mem_cons_of_mem _ ha, by omega⟩
end Go.Proofs.Ytjjoieahodfikaa.Tmr
/- What a call hands back that lays bytes in new memory. -/
namespace Go.Proofs.Ytjjoieahodfikaa
open Go.RowKit
/-- .. and an error. -/
def NewPair (w : World) (xs : List Nat) (er : Int) (r : Ending) (w' : World) : Prop :=
  ∃ A n c, r = .returned (.tuple #[.slice A n c, .int .i64 er]) ∧ Own w' w.heap.size 5 A n c xs ∧ Keep w w'
theorem NewPair.nil (w : World) (er : Int) : NewPair w [] er (.returned (.tuple #[.slice none 0 0, .int .i64 er])) w := ⟨none, 0, 0, rfl, Own.none_ _ _ _, Keep.refl _⟩
end Go.Proofs.Ytjjoieahodfikaa
/- The document's own timers: how they lie; later, at. -/
namespace Go.Proofs.Ytjjoieahodfikaa
open Go.RowKit Tmr
set_option linter.unusedVariables false
set_option linter.unusedSimpArgs false
def almV (a : Alarm) : List Value := [.int .i64 (a.name : Int), .int .u64 (a.every : Int), .int .u64 (a.due : Int)]
theorem almL : Laid almV 3 := ⟨fun a => rfl, fun a u hu => by simp [almV] at hu; rcases hu with rfl | rfl | rfl <;> rfl⟩
/-- An alarm that may be. -/
def FineA (a : Alarm) : Prop := a.name < 9223372036854775808 ∧ 1 ≤ a.every ∧ a.every ≤ maxT ∧ a.due ≤ maxT
/-- The document's timers in block g: their clock, their alarms. -/
structure TmD (w : World) (B g clk : Nat) (A : Option Addr) (n c : Nat) (l : List Alarm) : Prop where
  block : w.heap[g]? = some (.cells #[.int .u64 (clk : Int), .slice A n c] 30 (0, 0))
  als : SAt almV 3 w B A n c l
  ap : ∀ b, (Value.slice A n c).ownBlock = some b → b ≠ g
  low : B ≤ g
  rising : Rising l
  clock : clk ≤ maxT
  fine : ∀ a ∈ l, FineA a
  few : n ≤ 100000
namespace TmD
variable {w w' : World} {B g clk n c : Nat} {A : Option Addr} {l : List Alarm}
theorem lt (h : TmD w B g clk A n c l) : g < w.heap.size := (Array.getElem?_eq_some_iff.1 h.block).1
theorem c0 (h : TmD w B g clk A n c l) : w.cell? ⟨g, 0, none⟩ = some (.int .u64 (clk : Int)) := by unfold World.cell?; rw [h.block]; rfl
theorem c1 (h : TmD w B g clk A n c l) : w.cell? ⟨g, 1, none⟩ = some (.slice A n c) := by unfold World.cell?; rw [h.block]; rfl
theorem f0 (h : TmD w B g clk A n c l) : w.frozen? ⟨g, 0, none⟩ = false := by simp [World.frozen?, h.block]
theorem f1 (h : TmD w B g clk A n c l) : w.frozen? ⟨g, 1, none⟩ = false := by simp [World.frozen?, h.block]
theorem turned {G : Nat → Prop} (h : TmD w B g clk A n c l) (t : Turned G w w') (h1 : ¬ G g) (h2 : ∀ b, (Value.slice A n c).ownBlock = some b → ¬ G b) : TmD w' B g clk A n c l :=
  ⟨(t.block g h.lt h1).trans h.block, h.als.turned t h2, h.ap, h.low, h.rising, h.clock, h.fine, h.few⟩
theorem keep (h : TmD w B g clk A n c l) (t : Keep w w') : TmD w' B g clk A n c l := h.turned (Turned.of_keep (F := fun _ => False) t) (fun e => e) (fun _ _ e => e)
/-- One of its alarms: where its cells are. -/
theorem one (h : TmD w B g clk A n c l) {i : Nat} (hi : i < n) : ∃ b off a, A = some ⟨b, off, none⟩ ∧ l[i]? = some a ∧ w.cell? ⟨b, off + i * 3, none⟩ = some (.int .i64 (a.name : Int)) ∧ w.cell? ⟨b, off + i * 3 + 1, none⟩ = some (.int .u64 (a.every : Int)) ∧ w.cell? ⟨b, off + i * 3 + 2, none⟩ = some (.int .u64 (a.due : Int)) ∧ FineA a := by
  obtain ⟨b, off, a, e, h1, h2, h3, h4⟩ := h.als.at_ almL hi
  exact ⟨b, off, a, e, h3, h4 0 _ rfl, h4 1 _ rfl, h4 2 _ rfl, h.fine a (List.mem_of_getElem? h3)⟩
end TmD
section
variable {w : World} {B g clk n c : Nat} {A : Option Addr} {l : List Alarm}
end
end Go.Proofs.Ytjjoieahodfikaa
/- A region that draws its order, walked by hand: what is held may grow on the way. -/
namespace Go.Proofs.Ytjjoieahodfikaa

section
variable {P : Program} {ops : Array Oper} {Q : Exit → Act → World → Prop} {md : Region.Mode} {S S' : World → Prop}
end
end Go.Proofs.Ytjjoieahodfikaa
/- The document's own timers: Stop, Again. -/
namespace Go.Proofs.Ytjjoieahodfikaa
open Go.RowKit Tmr
set_option linter.unusedVariables false
set_option linter.unusedSimpArgs false
/-- What Stop leaves is what was, without one. -/
theorem stopL_at {l : List Alarm} (h : Rising l) {k : Nat} {a : Alarm} (hk : l[k]? = some a) : stopL a.name l = l.take k ++ l.drop (k + 1) := by
  induction l generalizing k with
  | nil => simp at hk
  | cons b r ih =>
    unfold Rising at h
    rw [List.pairwise_cons] at h
    cases k with
    | zero =>
      simp at hk
      subst hk
      show (b :: r).filter _ = _
      rw [List.filter_cons, if_neg (by simp)]
      simp only [List.take_zero, List.nil_append, List.drop_succ_cons, List.drop_zero]
      rw [List.filter_eq_self]
      intro x hx
      have := h.1 x hx
      simp; omega
    | succ k =>
      have hm : a ∈ r := List.mem_of_getElem? (by simpa using hk)
      have hne := h.1 a hm
      have ih' := ih h.2 (k := k) (by simpa using hk)
      show (b :: r).filter _ = _
      rw [List.filter_cons, if_pos (by simp; omega)]
      simp only [List.take_succ_cons, List.drop_succ_cons, List.cons_append]
      congr 1
section
variable {w : World} {B g clk n c : Nat} {A : Option Addr} {l : List Alarm}
end
end Go.Proofs.Ytjjoieahodfikaa
