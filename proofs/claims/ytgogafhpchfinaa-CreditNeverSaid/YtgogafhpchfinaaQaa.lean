/- Words for memory: nothing that was there has turned. -/
import Derived.Below
import Derived.Carry
import Derived.Laws.Rows
import Derived.Deep.Draws
import Derived.ChangeOld
import Derived.ChangeShapes
import Derived.OpenShut
import Derived.SizedLaws
import Derived.JoinedOf
import Derived.ProofKit
import Derived.Laws.BytesArg
import Derived.Laws.AppendOwn
import Derived.Laws.OwnMore
import Derived.Laws.MakeOwn
import Derived.Maps.AppendAt
import Derived.OwnWalk
import Derived.Deep.Slices
import Derived.Deep.Fields
import Derived.Laws.FloatArith
import Derived.Laws.Cover2
import Derived.Laws.ComplexArith
import Derived.Laws.Slices
import Derived.Test.YtgogafhpchfinaaProg
import Derived.WalkKit
import Derived.WalkSpells
import Derived.Lib.Hide
import Derived.Deep.RegionHeld3
import Derived.Deep.AppendLies
import Derived.Deep.QuietTactic
import Derived.BigQuiet
namespace Go.Proofs.Ytgogafhpchfinaa
open Go.RowKit

/-- Nothing of what was there has turned; new blocks may lie behind. -/
def Keep (w w' : World) : Prop := Below w.heap.size w w'
namespace Keep
variable {W w w' : World}
theorem refl (w : World) : Keep w w := Below.refl _ _
theorem trans {a b c : World} (h : Keep a b) (k : Keep b c) : Keep a c := Below.trans h (Below.mono k (Below.size h))
theorem alloc (h : Keep W w) (c : Array Value) (t : TypeId) : Keep W (w.alloc (.cells c t)) := Below.alloc h (Below.size h) _
theorem allocMap (h : Keep W w) (es : Array MapEntry) (c : Nat) : Keep W (w.alloc (.map es c)) := Below.alloc h (Below.size h) _
theorem setCell (h : Keep W w) {a : Addr} (ha : W.heap.size ≤ a.block) (v : Value) : Keep W (w.setCell a v) := Below.setCell h ha v
theorem drew (h : Keep W w) : Keep W w.drew := Below.drew h
theorem block (h : Keep W w) (k : Nat) (hk : k < W.heap.size) : w.heap[k]? = W.heap[k]? := Below.block h k hk
theorem size (h : Keep W w) : W.heap.size ≤ w.heap.size := Below.size h
end Keep
end Go.Proofs.Ytgogafhpchfinaa
/- From a walk to a law's statement: a law that answers true and turns nothing that was there. -/
namespace Go.Proofs.Ytgogafhpchfinaa
open Go.ChangeShapes Go.WideShapes Go.ChangeAt Go.RowKit

section
variable {H : Type} {enc : TypeId × Value → H} {P : Program}

/-- The arguments read behind the call as they did before. -/
theorem args_kept (hl : laidOutB P = true) {W W' : World} (hb : Below W.heap.size W W') : ∀ {ts : List TypeId} {vs : List Value} {ds : List (DataW H)} {ps : List MemPlace},
    (∀ t ∈ ts, P.readableRec t = true ∧ t < P.types.size) → DataW.TrodAll enc P W 0 (fun _ => true) true ts vs ds ps → (∀ x ∈ ps, x.block < W.heap.size) →
    DataW.TrodAll enc P W' 0 (fun b => decide (b < W.heap.size)) true ts vs ds ps := by
  intro ts
  induction ts with
  | nil =>
    intro vs ds ps _ h _
    obtain ⟨rfl, rfl, rfl⟩ := trodAll_nil h
    exact trodAll_mk0
  | cons t ts ih =>
    intro vs ds ps hr h hlt
    obtain ⟨v, vs, d, ds, p, p', rfl, rfl, rfl, h0, h1⟩ := trodAll_cons h
    obtain ⟨r1, r2⟩ := hr t (by simp)
    exact trodAll_cons_mk (Below.trod hl r1 r2 h0 hb fun x hx => hlt x (by simp [hx])) (ih (fun t ht => hr t (by simp [ht])) h1 fun x hx => hlt x (by simp [hx]))

theorem args_length {W : World} {base : Nat} {sp : Nat → Bool} {held : Bool} : ∀ {ts : List TypeId} {vs : List Value} {ds : List (DataW H)} {ps : List MemPlace}, DataW.TrodAll enc P W base sp held ts vs ds ps → ds.length = ts.length := by
  intro ts
  induction ts with
  | nil =>
    intro vs ds ps h
    obtain ⟨rfl, rfl, rfl⟩ := trodAll_nil h
    rfl
  | cons t ts ih =>
    intro vs ds ps h
    obtain ⟨v, vs, d, ds, p, p', rfl, rfl, rfl, h0, h1⟩ := trodAll_cons h
    simp [ih h1]

/-- A law whose walk answers true and turns nothing that was there: what is handed over. -/
theorem law_handed {C : Checked} {os : Os} {f : FuncId} {fn : Func} {s : ChangeSpec}
    (own : ownKnob C.prog.godebug = none) (started : os.Started) (noInit : C.prog.inits.idxOf? f = none) (hfn : C.prog.funcs[f]? = some fn)
    (witness : ∃ (w : World) (tape : Tape) (i : Input), w.os = os ∧ (w.forCall tape i).Shaped C.prog ∧ i.vars = [] ∧ Input.okWide C.prog (w.forCall tape i) .any w.heap.size f i ∧
      s.pre6 enc C.prog fn [] false (w.forCall tape i).memory i.args ∧ ({} : Assume).holds C.prog (lone (Frame.enter C.prog f i.args .normal) [] (w.forCall tape i)))
    (hl : laidOutB C.prog = true) (hr : ∀ t ∈ fn.params.toList, C.prog.readableRec t = true ∧ t < C.prog.types.size) {tb : TypeId} (hres : fn.resultTypes = #[tb]) (htb : C.prog.underlying tb = some .bool)
    (hvars : s.vars = []) (hspec : ∀ ds : List (DataW H), ds.length = fn.params.size → s.fn H (ds ++ []) = { results := [.lit (.bool true)], args := ds })
    (walk : ∀ (W : World) (base : Nat) (args : Array Value) (ds : List (DataW H)) (p : List MemPlace),
      (∀ (j : Nat) t v, fn.params[j]? = some t → args[j]? = some v → Value.okWide C.prog W .any base t v) →
      DataW.TrodAll enc C.prog W 0 (fun _ => true) true fn.params.toList args.toList ds p →
      (DataW.weightsEach C.prog fn.params.toList ds).all (· ≤ reachBytes) = true →
      Calls C.prog f args W fun e W' => e = .returned (.bool true) ∧ Below W.heap.size W W') :
    ReturnsInHanded {} C os f .any (s.pre6 enc C.prog fn [] false) (s.post enc C.prog fn false true false false) := by
  refine returnsInHanded_of_change_sized own started noInit hfn witness ?_
  intro W base args ds gs before hval hW _ hsz _
  have hW' := hW
  obtain ⟨p, q, hA, hV, rfl, _, _⟩ := hW
  rw [hvars] at hV
  obtain ⟨rfl, rfl⟩ := trodVars_none hV
  have hty : s.plain.varTypes C.prog = [] := by
    show DataSpec.varTypes C.prog s.plain = []
    have h1 : s.plain.vars = [] := hvars
    unfold DataSpec.varTypes
    rw [h1]
    rfl
  rw [hty] at hsz
  simp only [List.append_nil] at hsz hW'
  have hlen : ds.length = fn.params.size := by simpa using args_length hA
  have hlt : ∀ x ∈ p, x.block < W.heap.size := DataW.TrodAll.lt hA
  refine (walk W base args ds p hval hA hsz).mono fun e W' ⟨he, bel⟩ => ?_
  subst he
  have hsp := hspec ds hlen
  refine ⟨_, rfl, ds, [], p, [], p, [], hW', ?_, ?_, ?_, bel.frame _, fun h => by cases h⟩
  · rw [hsp, hres]
    exact trodAll_mk1 (shut_bool htb _)
  · rw [hsp]
    exact args_kept hl bel hr hA hlt
  · rw [hsp, hvars]
    rfl
end
end Go.Proofs.Ytgogafhpchfinaa
/- Slices of bytes: what they hold, in memory that was there or is new; as strings. -/
namespace Go.Proofs.Ytgogafhpchfinaa
open Go.RowKit Go.ChangeShapes Go.WideShapes

/-- Bytes as cells. -/
def u8s (xs : List Nat) : List Value := xs.map fun x : Nat => Value.int .u8 (x : Int)
def AllB (xs : List Nat) : Prop := ∀ x ∈ xs, x < 256
theorem u8s_get (xs : List Nat) (i : Nat) : (u8s xs)[i]? = xs[i]?.map fun x : Nat => Value.int .u8 (x : Int) := by simp [u8s]
theorem AllB.at {xs : List Nat} (h : AllB xs) (i : Nat) (hi : i < xs.length) : xs[i] < 256 := h _ (List.getElem_mem hi)
theorem AllB.getD {xs : List Nat} (h : AllB xs) (i : Nat) : xs.getD i 0 < 256 := by
  rw [List.getD_eq_getElem?_getD]
  cases e : xs[i]? with
  | none => exact (by decide : 0 < 256)
  | some x => exact h x (List.mem_of_getElem? e)
theorem AllB.append {xs ys : List Nat} (h : AllB xs) (k : AllB ys) : AllB (xs ++ ys) := fun x hx => by
  rcases List.mem_append.1 hx with h1 | h1
  · exact h x h1
  · exact k x h1
theorem AllB.take {xs : List Nat} (h : AllB xs) (n : Nat) : AllB (xs.take n) := fun x hx => h x (List.mem_of_mem_take hx)

/-- A slice of n bytes at A, below block B: they are xs. -/
def Bytes (w : World) (B : Nat) (A : Option Addr) (n : Nat) (xs : List Nat) : Prop :=
  xs.length = n ∧ AllB xs ∧ (0 < n → ∃ b off, A = some ⟨b, off, none⟩ ∧ b < B ∧ ∀ i, i < n → w.cell? ⟨b, off + i, none⟩ = some (.int .u8 ((xs.getD i 0 : Nat) : Int)))
namespace Bytes
variable {w w' : World} {B B' n : Nat} {A : Option Addr} {xs : List Nat}
theorem length (h : Bytes w B A n xs) : xs.length = n := h.1
theorem all (h : Bytes w B A n xs) : AllB xs := h.2.1
theorem nil (w : World) (B : Nat) (A : Option Addr) : Bytes w B A 0 [] := ⟨rfl, fun _ h => by simp at h, fun h => absurd h (by omega)⟩
theorem below (h : Bytes w B A n xs) (k : Below B w w') : Bytes w' B A n xs := ⟨h.1, h.2.1, fun hn => by
  obtain ⟨b, off, e, hb, hc⟩ := h.2.2 hn
  exact ⟨b, off, e, hb, fun i hi => (k.cell (p := ⟨b, off + i, none⟩) hb).trans (hc i hi)⟩⟩
theorem keep (h : Bytes w B A n xs) (hB : B ≤ w.heap.size) (k : Keep w w') : Bytes w' B A n xs := h.below (Below.mono k hB)
theorem mono (h : Bytes w B A n xs) (hB : B ≤ B') : Bytes w B' A n xs := ⟨h.1, h.2.1, fun hn => by
  obtain ⟨b, off, e, hb, hc⟩ := h.2.2 hn
  exact ⟨b, off, e, by omega, hc⟩⟩
theorem at_ (h : Bytes w B A n xs) {k : Nat} (hk : k < n) : ∃ b off, A = some ⟨b, off, none⟩ ∧ b < B ∧ w.cell? ⟨b, off + k, none⟩ = some (.int .u8 ((xs.getD k 0 : Nat) : Int)) := by
  obtain ⟨b, off, e, hb, hc⟩ := h.2.2 (by omega)
  exact ⟨b, off, e, hb, hc k hk⟩
end Bytes

section
variable {P : Program}
end

/-- New memory: a slice of n bytes in a block from base on, which may be written. -/
def Own (w : World) (base : Nat) (e : TypeId) (A : Option Addr) (n c : Nat) (xs : List Nat) : Prop :=
  w.ownsRow base e 1 (.slice A n c) n (u8s xs) ∧ AllB xs
namespace Own
variable {w w' : World} {base n c : Nat} {e : TypeId} {A : Option Addr} {xs : List Nat}
theorem length (h : Own w base e A n c xs) : xs.length = n := by have := h.1.1; simpa [u8s] using this
theorem none_ (w : World) (base : Nat) (e : TypeId) : Own w base e none 0 0 [] := ⟨World.ownsRow_nil w base e 1, fun _ h => by simp at h⟩
/-- Where it lies. -/
theorem block (h : Own w base e A n c xs) (hn : 0 < n) : ∃ g, A = some ⟨g, 0, none⟩ ∧ base ≤ g ∧ g < w.heap.size := by
  rcases h.1.2 with ⟨hv, h0⟩ | ⟨g, cap, cur, hv, hg, hh, _⟩
  · omega
  · injection hv with h1 h2 h3
    exact ⟨g, h1, hg, (Array.getElem?_eq_some_iff.1 hh).1⟩
theorem bytes (h : Own w base e A n c xs) : Bytes w w.heap.size A n xs := by
  refine ⟨h.length, h.2, fun hn => ?_⟩
  obtain ⟨g, rfl, _, hlt⟩ := h.block hn
  refine ⟨g, 0, rfl, hlt, fun i hi => ?_⟩
  have hl : i < xs.length := by rw [h.length]; exact hi
  have hc := h.1.cells (g := g) rfl i (.int .u8 ((xs.getD i 0 : Nat) : Int)) (by rw [u8s_get]; simp [List.getD, hl])
  have ha : (⟨g, 0, none⟩ : Addr).add i = ⟨g, 0 + i, none⟩ := by unfold Addr.add; split <;> simp_all
  rwa [ha] at hc
theorem keep (h : Own w base e A n c xs) (k : Keep w w') : Own w' base e A n c xs :=
  ⟨h.1.kept (row := none) ⟨k.os, k.tape, k.output, k.size, fun i hi _ => k.block i hi⟩ (by
    cases hb : (Value.slice A n c).ownBlock with
    | none => exact Or.inl rfl
    | some g => exact Or.inr (by simp)), h.2⟩
end Own

theorem Bytes.cells {w : World} {B n b off : Nat} {xs : List Nat} (h : Bytes w B (some ⟨b, off, none⟩) n xs) (hn : 0 < n) : ∀ j u, (u8s xs)[j]? = some u → w.cell? ((⟨b, off, none⟩ : Addr).add j) = some u := by
  obtain ⟨b', off', e, _, hc⟩ := h.2.2 hn
  injection e with e
  injection e with e1 e2
  subst e1; subst e2
  intro j u hu
  rw [u8s_get] at hu
  have hj : j < xs.length := by
    rcases Nat.lt_or_ge j xs.length with hj | hj
    · exact hj
    · rw [List.getElem?_eq_none hj] at hu; cases hu
  have ha : (⟨b, off, none⟩ : Addr).add j = ⟨b, off + j, none⟩ := by unfold Addr.add; split <;> simp_all
  rw [ha, hc j (by rw [← h.1]; exact hj), ← hu]
  simp [List.getD, hj]

section
variable {P : Program}
/-- One byte in a block of its own. -/
theorem Bytes.one (w : World) (v : Nat) (hv : v < 256) (t : TypeId) : Bytes (w.alloc (.cells #[.int .u8 (v : Int)] t)) (w.heap.size + 1) (some ⟨w.heap.size, 0, none⟩) 1 [v] :=
  ⟨rfl, fun x hx => by simp at hx; omega, fun _ => ⟨w.heap.size, 0, rfl, by omega, fun i hi => by
    obtain rfl : i = 0 := by omega
    rw [cell_of_row _ _ _ _ _ _ (heap_alloc_new w _)]
    rfl⟩⟩
theorem Own.alloc {w : World} {base n c : Nat} {e : TypeId} {A : Option Addr} {xs : List Nat} (h : Own w base e A n c xs) (o : Obj) : Own (w.alloc o) base e A n c xs := ⟨h.1.alloc o, h.2⟩
theorem Own.drew {w : World} {base n c : Nat} {e : TypeId} {A : Option Addr} {xs : List Nat} (h : Own w base e A n c xs) : Own w.drew base e A n c xs := ⟨h.1, h.2⟩
theorem Bytes.drew {w : World} {B n : Nat} {A : Option Addr} {xs : List Nat} (h : Bytes w B A n xs) : Bytes w.drew B A n xs := h
end

theorem u8s_zeros (n : Nat) : u8s (List.replicate n 0) = List.replicate n (.int .u8 0) := by simp [u8s]
theorem AllB.zeros (n : Nat) : AllB (List.replicate n 0) := fun x hx => by rw [(List.mem_replicate.1 hx).2]; decide
theorem Own.made (w : World) (e : TypeId) (n : Nat) (hn : n ≤ 140737488355328) : Own (w.alloc (.cells (madeCells #[.int .u8 0] n) e)) w.heap.size e (some ⟨w.heap.size, 0, none⟩) n n (List.replicate n 0) := by
  refine ⟨?_, AllB.zeros n⟩
  have h := World.ownsRow_lit (w := w) (base := w.heap.size) (e := e) (size := 1) (madeCells #[.int .u8 0] n) n (Nat.le_refl _) (by unfold maxLen; omega) (by rw [size_madeCells]; omega)
  rwa [toList_madeCells_one, ← u8s_zeros] at h
/-- A slice literal. -/
theorem Own.lit (w : World) (e : TypeId) (n : Nat) (xs : List Nat) (cs : Array Value) (hc : cs = (u8s xs).toArray) (hl : xs.length = n) (hn : n ≤ 140737488355328) (hx : AllB xs) : Own (w.alloc (.cells cs e)) w.heap.size e (some ⟨w.heap.size, 0, none⟩) n n xs := by
  subst hc
  have h := World.ownsRow_lit (w := w) (base := w.heap.size) (e := e) (size := 1) (u8s xs).toArray n (Nat.le_refl _) (by unfold maxLen; omega) (by simp [u8s, hl])
  exact ⟨by simpa using h, hx⟩
theorem u8s_set (xs : List Nat) (i v : Nat) : (u8s xs).set i (.int .u8 (v : Int)) = u8s (xs.set i v) := by simp [u8s, List.map_set]
theorem AllB.set {xs : List Nat} (h : AllB xs) (i v : Nat) (hv : v < 256) : AllB (xs.set i v) := fun x hx => by
  rcases List.mem_or_eq_of_mem_set hx with h1 | h1
  · exact h x h1
  · rw [h1]; exact hv
/-- A store into new memory. -/
theorem Own.stored {w : World} {base e n c g i v : Nat} {xs : List Nat} (h : Own w base e (some ⟨g, 0, none⟩) n c xs) (hv : v < 256) : Own (w.setCell ⟨g, i, none⟩ (.int .u8 (v : Int))) base e (some ⟨g, 0, none⟩) n c (xs.set i v) :=
  ⟨by rw [← u8s_set]; exact (h.1.stored i _).1, h.2.set i v hv⟩
theorem Own.cell {w : World} {base e n c g i : Nat} {xs : List Nat} (h : Own w base e (some ⟨g, 0, none⟩) n c xs) (hi : i < n) : w.cell? ⟨g, i, none⟩ = some (.int .u8 ((xs.getD i 0 : Nat) : Int)) := by
  have hl : i < xs.length := by rw [h.length]; exact hi
  rw [h.1.cellAt i (by omega), u8s_get]
  simp [List.getD, hl]
theorem Own.lower {w : World} {base base' e n c : Nat} {A : Option Addr} {xs : List Nat} (h : Own w base e A n c xs) (hb : base' ≤ base) : Own w base' e A n c xs := by
  refine ⟨⟨h.1.1, ?_⟩, h.2⟩
  rcases h.1.2 with h1 | ⟨g, cap, cur, hv, hg, r⟩
  · exact Or.inl h1
  · exact Or.inr ⟨g, cap, cur, hv, by omega, r⟩
theorem Bytes.cut {w : World} {B n m : Nat} {A : Option Addr} {xs : List Nat} (h : Bytes w B A n xs) (hm : m ≤ n) : Bytes w B A m (xs.take m) := by
  refine ⟨by rw [List.length_take, h.1]; omega, h.2.1.take m, fun hp => ?_⟩
  obtain ⟨b, off, e, hb, hc⟩ := h.2.2 (by omega)
  refine ⟨b, off, e, hb, fun i hi => ?_⟩
  rw [hc i (by omega)]
  have hl : i < xs.length := by rw [h.1]; omega
  simp [List.getD, hl, hi]
theorem Bytes.alloc {w : World} {B n : Nat} {A : Option Addr} {xs : List Nat} (h : Bytes w B A n xs) (hB : B ≤ w.heap.size) (o : Obj) : Bytes (w.alloc o) B A n xs := h.below (Below.alloc (Below.refl _ _) hB o)
/-- A slice literal, its place said. -/
theorem Bytes.lit {w : World} {h : Nat} (hh : w.heap.size = h) (t : TypeId) (n : Nat) (xs : List Nat) (cs : Array Value) (hc : cs = (u8s xs).toArray) (hl : xs.length = n) (hn : n ≤ 140737488355328) (hx : AllB xs) : Bytes (w.alloc (.cells cs t)) (h + 1) (some ⟨h, 0, none⟩) n xs := by
  have hb := (Own.lit w t n xs cs hc hl hn hx).bytes
  rw [hh] at hb
  exact hb.mono (by simp [hh])
instance (xs : List Nat) : Decidable (AllB xs) := inferInstanceAs (Decidable (∀ x ∈ xs, x < 256))
end Go.Proofs.Ytgogafhpchfinaa
/- Arguments opened: slices of bytes, slices of slices of bytes. -/
namespace Go.Proofs.Ytgogafhpchfinaa
open Go.RowKit Go.ChangeShapes Go.WideShapes Go.Deep

/-- A slice of bytes as a value, and what it holds. -/
structure RowV where
  A : Option Addr
  n : Nat
  c : Nat
  xs : List Nat
def RowV.val (r : RowV) : Value := .slice r.A r.n r.c
/-- A slice of n slices of bytes at A, below block B. -/
def RowsAt (w : World) (B : Nat) (A : Option Addr) (n : Nat) (rs : List RowV) : Prop :=
  rs.length = n ∧ (∀ r ∈ rs, Bytes w B r.A r.n r.xs ∧ r.n ≤ 140737488351232 ∧ r.n ≤ r.c) ∧ (0 < n → ∃ b off, A = some ⟨b, off, none⟩ ∧ b < B ∧ ∀ i r, rs[i]? = some r → w.cell? ⟨b, off + i, none⟩ = some (.slice r.A r.n r.c))
theorem RowsAt.below {w w' : World} {B n : Nat} {A : Option Addr} {rs : List RowV} (h : RowsAt w B A n rs) (k : Below B w w') : RowsAt w' B A n rs :=
  ⟨h.1, fun r hr => ⟨(h.2.1 r hr).1.below k, (h.2.1 r hr).2⟩, fun hn => by
    obtain ⟨b, off, e, hb, hc⟩ := h.2.2 hn
    exact ⟨b, off, e, hb, fun i r hi => (k.cell (p := ⟨b, off + i, none⟩) hb).trans (hc i r hi)⟩⟩
theorem RowsAt.keep {w w' : World} {B n : Nat} {A : Option Addr} {rs : List RowV} (h : RowsAt w B A n rs) (hB : B ≤ w.heap.size) (k : Keep w w') : RowsAt w' B A n rs := h.below (Below.mono k hB)
theorem RowsAt.at_ {w : World} {B n : Nat} {A : Option Addr} {rs : List RowV} (h : RowsAt w B A n rs) {k : Nat} (hk : k < n) :
    ∃ b off r, A = some ⟨b, off, none⟩ ∧ b < B ∧ rs[k]? = some r ∧ w.cell? ⟨b, off + k, none⟩ = some (.slice r.A r.n r.c) ∧ Bytes w B r.A r.n r.xs ∧ r.n ≤ 140737488351232 ∧ r.n ≤ r.c := by
  obtain ⟨b, off, e, hb, hc⟩ := h.2.2 (by omega)
  have hl : k < rs.length := by rw [h.1]; exact hk
  have hr := List.getElem?_eq_getElem hl
  have hm := h.2.1 _ (List.getElem_mem hl)
  exact ⟨b, off, rs[k], e, hb, hr, hc k _ hr, hm.1, hm.2⟩
theorem RowsAt.alloc {w : World} {B n : Nat} {A : Option Addr} {rs : List RowV} (h : RowsAt w B A n rs) (hB : B ≤ w.heap.size) (o : Obj) : RowsAt (w.alloc o) B A n rs := h.below (Below.alloc (Below.refl _ _) hB o)
/-- A literal of slices, its place said. -/
theorem RowsAt.lit {w : World} {h : Nat} (hh : w.heap.size = h) (t : TypeId) (n : Nat) (rs : List RowV) (cs : Array Value) (hc : cs = (rs.map RowV.val).toArray) (hl : rs.length = n) (hr : ∀ r ∈ rs, Bytes w h r.A r.n r.xs ∧ r.n ≤ 140737488351232 ∧ r.n ≤ r.c) :
    RowsAt (w.alloc (.cells cs t)) (h + 1) (some ⟨h, 0, none⟩) n rs := by
  subst hh
  refine ⟨hl, fun r h1 => ⟨((hr r h1).1.alloc (Nat.le_refl _) _).mono (by omega), (hr r h1).2⟩, fun _ => ⟨_, 0, rfl, by omega, fun i r hi => ?_⟩⟩
  rw [cell_of_row _ _ _ _ _ _ (heap_alloc_new w _), hc, Nat.zero_add]
  simp [hi, RowV.val]

section
variable {H : Type} {enc : TypeId × Value → H} {P : Program} {W : World}

theorem weights_all {e : TypeId} : ∀ {ds : List (DataW H)} {d : DataW H}, d ∈ ds → ∀ n ∈ d.weights P e, n ∈ DataW.weightsAll P e ds
  | d0 :: ds, d, hd, n, hn => by
    rw [DataW.weightsAll, List.mem_append]
    rcases List.mem_cons.1 hd with h | h
    · subst h; exact Or.inl hn
    · exact Or.inr (weights_all h n hn)
end
end Go.Proofs.Ytgogafhpchfinaa
/- Arguments opened: slices of structs whose fields are one cell each. -/
namespace Go.Proofs.Ytgogafhpchfinaa
open Go.RowKit Go.ChangeShapes Go.WideShapes Go.Deep

/-- A slice of n structs of k fields at A, below block B: field j of struct i is l i j. -/
def FieldsAt (w : World) (B : Nat) (A : Option Addr) (n k : Nat) (l : List (List Value)) : Prop :=
  l.length = n ∧ (∀ r ∈ l, r.length = k) ∧ (0 < n → ∃ b off, A = some ⟨b, off, none⟩ ∧ b < B ∧ ∀ (i : Nat) (r : List Value) (j : Nat) (v : Value), l[i]? = some r → r[j]? = some v → w.cell? ⟨b, off + (i * k + j), none⟩ = some v)
theorem FieldsAt.below {w w' : World} {B n k : Nat} {A : Option Addr} {l : List (List Value)} (h : FieldsAt w B A n k l) (kp : Below B w w') : FieldsAt w' B A n k l :=
  ⟨h.1, h.2.1, fun hn => by
    obtain ⟨b, off, e, hb, hc⟩ := h.2.2 hn
    exact ⟨b, off, e, hb, fun i r j v hi hj => (kp.cell (p := ⟨b, off + (i * k + j), none⟩) hb).trans (hc i r j v hi hj)⟩⟩
theorem FieldsAt.keep {w w' : World} {B n k : Nat} {A : Option Addr} {l : List (List Value)} (h : FieldsAt w B A n k l) (hB : B ≤ w.heap.size) (kp : Keep w w') : FieldsAt w' B A n k l := h.below (Below.mono kp hB)
theorem FieldsAt.takes {w : World} {B n m k : Nat} {A : Option Addr} {l : List (List Value)} (h : FieldsAt w B A n k l) (hm : m ≤ n) : FieldsAt w B A m k (l.take m) := by
  refine ⟨by rw [List.length_take, h.1]; omega, fun r hr => h.2.1 r (List.mem_of_mem_take hr), fun hp => ?_⟩
  obtain ⟨b, off, e, hb, hc⟩ := h.2.2 (by omega)
  refine ⟨b, off, e, hb, fun i r j v hi hj => hc i r j v ?_ hj⟩
  rw [List.getElem?_take] at hi
  split at hi
  · exact hi
  · cases hi
section
variable {H : Type} {enc : TypeId × Value → H} {P : Program} {W : World}
theorem weights_each {ts : List TypeId} : ∀ {ds : List (DataW H)} {j : Nat} {t : TypeId} {d : DataW H}, ts[j]? = some t → ds[j]? = some d → ∀ n ∈ d.weights P t, n ∈ DataW.weightsEach P ts ds := fun h1 h2 => DataW.weights_mem_each h1 h2
/-- A reading of a slice of structs. -/
theorem structs_of {t e : TypeId} {fs : Array Field} (ht : P.underlying t = some (.slice e)) (he : P.underlying e = some (.struct fs)) (hone : oneCellFields P fs = true) (hC : P.cellsOf e = fs.size) (hpos : 0 < fs.size) (hbe : 1 ≤ P.bytesOf e)
    {v : Value} {d : DataW H} {p : List MemPlace} {fuel : Nat} (h : DataW.trod enc P W 0 (fun _ => true) true fuel t [v] = some (d, p)) (hs : ∀ n ∈ d.weights P t, n ≤ reachBytes) :
    ∃ (A : Option Addr) (n c : Nat) (l : List (List Value)), v = .slice A n c ∧ FieldsAt W W.heap.size A n fs.size l ∧ n ≤ 140737488351232 ∧ n ≤ c ∧
      ∀ r ∈ l, ∀ (j : Nat) (f : Field), fs[j]? = some f → ∃ (u : Value) (d : DataW H) (p : List MemPlace) (m : Nat), r[j]? = some u ∧ DataW.trod enc P W 0 (fun _ => true) true m f.type [u] = some (d, p) ∧ ∀ q ∈ d.weights P f.type, q ≤ reachBytes := by
  have hone' := hone_of hone
  rcases open_slice ht h with ⟨hcs, _⟩ | ⟨a, len, cap, m, n, D, Pl, hcs, _, hl, hm, hmm, hx, hi⟩
  · simp at hcs
    exact ⟨none, 0, 0, [], hcs, ⟨rfl, fun r hr => by simp at hr, fun h => absurd h (by omega)⟩, by omega, by omega, fun r hr => by simp at hr⟩
  · simp at hcs
    have hmc : m = cap := by simpa using hmm
    simp only [Prod.mk.injEq] at hx
    obtain ⟨hde, _⟩ := hx
    have hr : reachBytes = 140737488351232 := by decide
    have hlen : len ≤ 140737488351232 := by
      have h1 := hs ((((List.range len).map D).length + ((List.range (m - len)).map fun j => D (len + j)).length) * P.bytesOf e) (by rw [hde]; simp [DataW.weights, ht])
      simp only [List.length_map, List.length_range] at h1
      have h2 : len * 1 ≤ (len + (m - len)) * P.bytesOf e := Nat.mul_le_mul (by omega) hbe
      omega
    have each : ∀ i, i < len → ∃ r : List Value, r.length = fs.size ∧ (∀ j u, r[j]? = some u → W.cell? (a.add (i * fs.size + j)) = some u) ∧
        ∀ (j : Nat) (f : Field), fs[j]? = some f → ∃ (u : Value) (d : DataW H) (p : List MemPlace) (m : Nat), r[j]? = some u ∧ DataW.trod enc P W 0 (fun _ => true) true m f.type [u] = some (d, p) ∧ ∀ q ∈ d.weights P f.type, q ≤ reachBytes := by
      intro i hin
      obtain ⟨cs', h1, h2⟩ := hi i (by omega)
      rw [hC] at h1
      obtain ⟨_, hlen', hcell⟩ := World.cells?_some h1
      obtain ⟨xs, k, _, hxy, _, hxl, hf⟩ := DataW.trod_struct he h2
      simp only [Prod.mk.injEq] at hxy
      refine ⟨cs', hlen', fun j u hju => ?_, fun j f hjf => ?_⟩
      · have hj : j < fs.size := by
          rcases Nat.lt_or_ge j cs'.length with hh | hh
          · omega
          · rw [List.getElem?_eq_none hh] at hju; cases hju
        have hc := hcell j hj
        rw [add_add] at hc
        rw [hc, hju]
      · have hj : j < fs.size := (Array.getElem?_eq_some_iff.1 hjf).1
        obtain ⟨ho, hc1⟩ := hone' j f hjf
        have g := hf j f hjf
        rw [ho, hc1, take1_drop cs' j undef (by omega), List.getElem?_eq_getElem (by omega)] at g
        refine ⟨cs'.getD j undef, xs[j].1, xs[j].2, k, by simp [List.getD, List.getElem?_eq_getElem (show j < cs'.length by omega)], g, fun q hq => hs q ?_⟩
        rw [hde]
        simp only [DataW.weights, ht, List.mem_cons, List.mem_append]
        refine Or.inr (Or.inl (weights_all (List.mem_map.2 ⟨i, List.mem_range.2 hin, rfl⟩) q ?_))
        rw [hxy.1]
        simp only [DataW.weights, he]
        exact weights_each (j := j) (t := f.type) (d := xs[j].1) (by rw [List.getElem?_map]; simp [hjf]) (by rw [List.getElem?_map, List.getElem?_eq_getElem (by omega)]; rfl) q hq
    obtain ⟨R, hR⟩ := choose_lt each
    refine ⟨some a, len, cap, (List.range len).map R, hcs, ⟨by simp, fun r hr => ?_, fun hp => ?_⟩, hlen, hl, fun r hr => ?_⟩
    · obtain ⟨i, hin, rfl⟩ := List.mem_map.1 hr
      exact (hR i (List.mem_range.1 hin)).1
    · obtain ⟨b, off, spot⟩ := a
      have hr0 := hR 0 hp
      have h0 := hr0.2.1 0 ((R 0).getD 0 undef) (by simp [List.getD, List.getElem?_eq_getElem (show 0 < (R 0).length by rw [hr0.1]; exact hpos)])
      have hspot : spot = none := by simpa [Addr.add] using World.cell?_spot h0
      subst hspot
      refine ⟨b, off, rfl, World.block_lt_of_cell? W _ (show W.cell? ⟨b, off, none⟩ = _ by simpa [Addr.add] using h0), fun i r j v hir hjv => ?_⟩
      have hin : i < len := by
        rcases Nat.lt_or_ge i len with h | h
        · exact h
        · rw [List.getElem?_eq_none (by simpa using h)] at hir; cases hir
      have hri : r = R i := by simp [hin] at hir; exact hir.symm
      subst hri
      have h1 := (hR i hin).2.1 j v hjv
      have ha : (⟨b, off, none⟩ : Addr).add (i * fs.size + j) = ⟨b, off + (i * fs.size + j), none⟩ := by unfold Addr.add; split <;> simp_all
      rwa [ha] at h1
    · obtain ⟨i, hin, rfl⟩ := List.mem_map.1 hr
      exact (hR i (List.mem_range.1 hin)).2.2
/-- An argument that is a slice of structs. -/
theorem arg_structs {t e : TypeId} {fs : Array Field} (ht : P.underlying t = some (.slice e)) (he : P.underlying e = some (.struct fs)) (hone : oneCellFields P fs = true) (hC : P.cellsOf e = fs.size) (hpos : 0 < fs.size) (hbe : 1 ≤ P.bytesOf e)
    {ts : List TypeId} {ds : List (DataW H)} (hsz : (DataW.weightsEach P ts ds).all (· ≤ reachBytes) = true) {j : Nat} (hj : ts[j]? = some t) {v : Value} {d : DataW H} {p : List MemPlace} (hd : ds[j]? = some d)
    {base : Nat} (hv : Value.okWide P W .any base t v) (h : DataW.Trod enc P W 0 (fun _ => true) true t v d p) :
    ∃ (A : Option Addr) (n c : Nat) (l : List (List Value)), v = .slice A n c ∧ FieldsAt W W.heap.size A n fs.size l ∧ n ≤ 140737488351232 ∧ n ≤ c ∧
      ∀ r ∈ l, ∀ (j : Nat) (f : Field), fs[j]? = some f → ∃ (u : Value) (d : DataW H) (p : List MemPlace) (m : Nat), r[j]? = some u ∧ DataW.trod enc P W 0 (fun _ => true) true m f.type [u] = some (d, p) ∧ ∀ q ∈ d.weights P f.type, q ≤ reachBytes := by
  obtain ⟨A, n, c, rfl⟩ := okWide_slice ht hv
  obtain ⟨fuel, hf⟩ := h
  exact structs_of ht he hone hC hpos hbe (fuel := fuel) (by simpa [Value.cells] using hf) fun n hn => by
    have := List.all_eq_true.1 hsz n (DataW.weights_mem_each hj hd n hn)
    simpa using this
/-- A field that is an int, read. -/
theorem field_int {r : List Value} {j : Nat} {ft : TypeId} {k : IntKind} (hft : P.underlying ft = some (.int k)) (h : ∃ (u : Value) (d : DataW H) (p : List MemPlace) (m : Nat), r[j]? = some u ∧ DataW.trod enc P W 0 (fun _ => true) true m ft [u] = some (d, p) ∧ ∀ q ∈ d.weights P ft, q ≤ reachBytes) :
    ∃ a : Int, r[j]? = some (.int k a) ∧ (Lit.int k a).wf = true := by
  obtain ⟨u, d, p, m, h1, h2, _⟩ := h
  obtain ⟨a, e, _, hw⟩ := DataW.trod_int hft h2
  simp at e
  exact ⟨a, by rw [h1, e], hw⟩
end
end Go.Proofs.Ytgogafhpchfinaa
/- Arguments that are slices of stage 16's calls and steps. -/
namespace Go.Proofs.Ytgogafhpchfinaa
open Go.RowKit Go.ChangeShapes Go.WideShapes Go.Deep
set_option linter.unusedVariables false
/-- A call. -/
structure OpC where
  what : Int
  free : Int
  life : Nat
  to : Nat
  num : Nat
/-- A step. -/
structure StepC where
  what : Int
  free : Int
  at_ : Nat
  stays : Bool
theorem u16_wf {a : Int} (h : (Lit.int .u16 a).wf = true) : ∃ n : Nat, a = n ∧ n < 65536 := by
  have h2 : 0 ≤ a ∧ a ≤ 65535 := by simpa [Lit.wf, IntKind.min, IntKind.max, IntKind.signed, IntKind.bits] using h
  obtain ⟨n, rfl⟩ := Int.eq_ofNat_of_zero_le h2.1
  exact ⟨n, rfl, by omega⟩
theorem i64_wf {a : Int} (h : (Lit.int .i64 a).wf = true) : -9223372036854775808 ≤ a ∧ a ≤ 9223372036854775807 := by
  simpa [Lit.wf, IntKind.min, IntKind.max, IntKind.signed, IntKind.bits] using h
/-- A slice of n calls at A, below block B. -/
def OpsC (w : World) (B : Nat) (A : Option Addr) (n : Nat) (l : List OpC) : Prop :=
  l.length = n ∧ (∀ a ∈ l, a.life < 18446744073709551616 ∧ a.to < 18446744073709551616 ∧ a.num < 18446744073709551616) ∧
  (0 < n → ∃ b off, A = some ⟨b, off, none⟩ ∧ b < B ∧ ∀ i a, l[i]? = some a → w.cell? ⟨b, off + i * 5, none⟩ = some (.int .i64 a.what) ∧ w.cell? ⟨b, off + i * 5 + 1, none⟩ = some (.int .i64 a.free) ∧ w.cell? ⟨b, off + i * 5 + 2, none⟩ = some (.int .u64 (a.life : Int)) ∧ w.cell? ⟨b, off + i * 5 + 3, none⟩ = some (.int .u64 (a.to : Int)) ∧ w.cell? ⟨b, off + i * 5 + 4, none⟩ = some (.int .u64 (a.num : Int)))
def StepsC (w : World) (B : Nat) (A : Option Addr) (n : Nat) (l : List StepC) : Prop :=
  l.length = n ∧ (∀ a ∈ l, a.at_ < 65536 ∧ -9223372036854775808 ≤ a.free ∧ a.free ≤ 9223372036854775807) ∧
  (0 < n → ∃ b off, A = some ⟨b, off, none⟩ ∧ b < B ∧ ∀ i a, l[i]? = some a → w.cell? ⟨b, off + i * 4, none⟩ = some (.int .i64 a.what) ∧ w.cell? ⟨b, off + i * 4 + 1, none⟩ = some (.int .i64 a.free) ∧ w.cell? ⟨b, off + i * 4 + 2, none⟩ = some (.int .u16 (a.at_ : Int)) ∧ w.cell? ⟨b, off + i * 4 + 3, none⟩ = some (.bool a.stays))
/-- One of them, in all later worlds. -/
theorem OpsC.one {w : World} {A : Option Addr} {m j : Nat} {l : List OpC} (h : OpsC w w.heap.size A m l) (hj : j < m) :
    ∃ (b off : Nat) (a : OpC), A = some ⟨b, off, none⟩ ∧ b < w.heap.size ∧ (∀ wx, Keep w wx → wx.cell? ⟨b, off + j * 5, none⟩ = some (.int .i64 a.what) ∧ wx.cell? ⟨b, off + j * 5 + 1, none⟩ = some (.int .i64 a.free) ∧ wx.cell? ⟨b, off + j * 5 + 2, none⟩ = some (.int .u64 (a.life : Int)) ∧ wx.cell? ⟨b, off + j * 5 + 3, none⟩ = some (.int .u64 (a.to : Int)) ∧ wx.cell? ⟨b, off + j * 5 + 4, none⟩ = some (.int .u64 (a.num : Int))) ∧
      a.life < 18446744073709551616 ∧ a.to < 18446744073709551616 ∧ a.num < 18446744073709551616 := by
  obtain ⟨b, off, rfl, hb, hc⟩ := h.2.2 (by omega)
  have hl := List.getElem?_eq_getElem (l := l) (i := j) (by rw [h.1]; exact hj)
  have hk : ∀ wx, Keep w wx → ∀ o v, w.cell? ⟨b, o, none⟩ = some v → wx.cell? ⟨b, o, none⟩ = some v := fun wx kx o v hv => (Below.cell (B := w.heap.size) kx (show b < w.heap.size by omega)).trans hv
  obtain ⟨c0, c1, c2, c3, c4⟩ := hc j _ hl
  exact ⟨b, off, _, rfl, hb, fun wx kx => ⟨hk wx kx _ _ c0, hk wx kx _ _ c1, hk wx kx _ _ c2, hk wx kx _ _ c3, hk wx kx _ _ c4⟩, h.2.1 _ (List.mem_of_getElem? hl)⟩
theorem StepsC.one {w : World} {A : Option Addr} {m j : Nat} {l : List StepC} (h : StepsC w w.heap.size A m l) (hj : j < m) :
    ∃ (b off : Nat) (a : StepC), A = some ⟨b, off, none⟩ ∧ b < w.heap.size ∧ (∀ wx, Keep w wx → wx.cell? ⟨b, off + j * 4, none⟩ = some (.int .i64 a.what) ∧ wx.cell? ⟨b, off + j * 4 + 1, none⟩ = some (.int .i64 a.free) ∧ wx.cell? ⟨b, off + j * 4 + 2, none⟩ = some (.int .u16 (a.at_ : Int)) ∧ wx.cell? ⟨b, off + j * 4 + 3, none⟩ = some (.bool a.stays)) ∧
      a.at_ < 65536 ∧ -9223372036854775808 ≤ a.free ∧ a.free ≤ 9223372036854775807 := by
  obtain ⟨b, off, rfl, hb, hc⟩ := h.2.2 (by omega)
  have hl := List.getElem?_eq_getElem (l := l) (i := j) (by rw [h.1]; exact hj)
  have hk : ∀ wx, Keep w wx → ∀ o v, w.cell? ⟨b, o, none⟩ = some v → wx.cell? ⟨b, o, none⟩ = some v := fun wx kx o v hv => (Below.cell (B := w.heap.size) kx (show b < w.heap.size by omega)).trans hv
  obtain ⟨c0, c1, c2, c3⟩ := hc j _ hl
  exact ⟨b, off, _, rfl, hb, fun wx kx => ⟨hk wx kx _ _ c0, hk wx kx _ _ c1, hk wx kx _ _ c2, hk wx kx _ _ c3⟩, h.2.1 _ (List.mem_of_getElem? hl)⟩
section
variable {H : Type} {enc : TypeId × Value → H} {P : Program} {W : World}
/-- A field that is a Boolean, read. -/
theorem field_bool {r : List Value} {j : Nat} {ft : TypeId} (hft : P.underlying ft = some .bool) (h : ∃ (u : Value) (d : DataW H) (p : List MemPlace) (m : Nat), r[j]? = some u ∧ DataW.trod enc P W 0 (fun _ => true) true m ft [u] = some (d, p) ∧ ∀ q ∈ d.weights P ft, q ≤ reachBytes) :
    ∃ a : Bool, r[j]? = some (.bool a) := by
  obtain ⟨u, d, p, m, h1, h2, _⟩ := h
  obtain ⟨a, e, _⟩ := DataW.trod_bool hft h2
  simp at e
  exact ⟨a, by rw [h1, e]⟩
theorem arg_stepsC {t e ti t16 tb : TypeId} {f0 f1 f2 f3 : Field} (ht : P.underlying t = some (.slice e)) (he : P.underlying e = some (.struct #[f0, f1, f2, f3])) (hone : oneCellFields P #[f0, f1, f2, f3] = true) (hC : P.cellsOf e = 4) (hbe : 1 ≤ P.bytesOf e)
    (hf0 : f0.type = ti) (hf1 : f1.type = ti) (hf2 : f2.type = t16) (hf3 : f3.type = tb) (hti : P.underlying ti = some (.int .i64)) (ht16 : P.underlying t16 = some (.int .u16)) (htb : P.underlying tb = some .bool)
    {ts : List TypeId} {ds : List (DataW H)} (hsz : (DataW.weightsEach P ts ds).all (· ≤ reachBytes) = true) {j : Nat} (hj : ts[j]? = some t) {v : Value} {d : DataW H} {p : List MemPlace} (hd : ds[j]? = some d)
    {base : Nat} (hv : Value.okWide P W .any base t v) (h : DataW.Trod enc P W 0 (fun _ => true) true t v d p) :
    ∃ (A : Option Addr) (n c : Nat) (l : List StepC), v = .slice A n c ∧ StepsC W W.heap.size A n l ∧ n ≤ 140737488351232 ∧ n ≤ c := by
  obtain ⟨A', n', c', l, rfl, hA, hn, hnc, hl⟩ := arg_structs ht he hone hC (Nat.succ_pos _) hbe hsz hj hd hv h
  have each : ∀ i, i < n' → ∃ a : StepC, l[i]? = some [.int .i64 a.what, .int .i64 a.free, .int .u16 (a.at_ : Int), .bool a.stays] ∧ a.at_ < 65536 ∧ -9223372036854775808 ≤ a.free ∧ a.free ≤ 9223372036854775807 := fun i hi => by
    have hil : i < l.length := by rw [hA.1]; exact hi
    have hm := List.getElem_mem hil
    have hlen := hA.2.1 _ hm
    obtain ⟨a0, e0, r0⟩ := field_int (ft := f0.type) (k := .i64) (by rw [hf0]; exact hti) (hl _ hm 0 f0 rfl)
    obtain ⟨a1, e1, r1⟩ := field_int (ft := f1.type) (k := .i64) (by rw [hf1]; exact hti) (hl _ hm 1 f1 rfl)
    obtain ⟨a2, e2, r2⟩ := field_int (ft := f2.type) (k := .u16) (by rw [hf2]; exact ht16) (hl _ hm 2 f2 rfl)
    obtain ⟨z2, rfl, hz2⟩ := u16_wf r2
    obtain ⟨a3, e3⟩ := field_bool (ft := f3.type) (by rw [hf3]; exact htb) (hl _ hm 3 f3 rfl)
    rw [List.getElem?_eq_getElem hil]
    match hx : l[i], hlen with
    | [x0, x1, x2, x3], _ =>
      rw [hx] at e0 e1 e2 e3
      simp at e0 e1 e2 e3
      exact ⟨⟨a0, a1, z2, a3⟩, by rw [e0, e1, e2, e3], hz2, i64_wf r1⟩
  have : Inhabited StepC := ⟨⟨0, 0, 0, false⟩⟩
  obtain ⟨R, hR⟩ := choose_lt each
  refine ⟨A', n', c', (List.range n').map R, rfl, ⟨by simp, fun a ha => ?_, fun hp => ?_⟩, hn, hnc⟩
  · obtain ⟨i, hi, rfl⟩ := List.mem_map.1 ha
    exact (hR i (List.mem_range.1 hi)).2
  · obtain ⟨b, off, e, hbl, hcl⟩ := hA.2.2 hp
    refine ⟨b, off, e, hbl, fun i a hi => ?_⟩
    have hin : i < n' := by
      rcases Nat.lt_or_ge i n' with h | h
      · exact h
      · rw [List.getElem?_eq_none (by simpa using h)] at hi; cases hi
    have hai : a = R i := by simp [hin] at hi; exact hi.symm
    subst hai
    have hli := (hR i hin).1
    refine ⟨?_, ?_, ?_, ?_⟩
    · exact hcl i _ 0 _ hli rfl
    · have := hcl i _ 1 _ hli rfl; rwa [← Nat.add_assoc] at this
    · have := hcl i _ 2 _ hli rfl; rwa [← Nat.add_assoc] at this
    · have := hcl i _ 3 _ hli rfl; rwa [← Nat.add_assoc] at this
end
end Go.Proofs.Ytgogafhpchfinaa
/- Whole numbers below 2^53 as numbers of 64 bits with a point: exact sums, order, back again. -/
namespace Go.Proofs.Ytgogafhpchfinaa
set_option linter.unusedVariables false
open Ieee
/-- The word of a whole number. -/
def fl (n : Nat) : Nat := double.write (.number false n 0)
theorem dbl_frac : (double.fractionBits : Int) = 52 := rfl
theorem dbl_least : double.leastPlace = -1074 := by decide +kernel
theorem dbl_inf : double.infRung = 2047 * 2 ^ 52 := by decide +kernel
theorem dbl_bin : double.binade = 2 ^ 52 := by decide +kernel
theorem dbl_sign : double.signWeight = 9223372036854775808 := by decide +kernel
theorem log_mul (n k : Nat) (hn : n ≠ 0) : (n * 2 ^ k).log2 = n.log2 + k := by
  have h0 : n * 2 ^ k ≠ 0 := Nat.mul_ne_zero hn (by have := Nat.two_pow_pos k; omega)
  rw [Nat.log2_eq_iff h0]
  have h1 := Nat.log2_self_le hn
  have h2 := Nat.lt_log2_self (n := n)
  refine ⟨?_, ?_⟩
  · rw [Nat.pow_add]; exact Nat.mul_le_mul_right _ h1
  · rw [show n.log2 + k + 1 = (n.log2 + 1) + k by omega, Nat.pow_add]
    exact Nat.mul_lt_mul_of_pos_right h2 (Nat.two_pow_pos k)
theorem log_le {n : Nat} (h : n < 2 ^ 53) : n.log2 ≤ 52 := by
  by_cases h0 : n = 0
  · subst h0; decide
  · have h1 := Nat.log2_self_le h0
    rcases Nat.lt_or_ge 52 n.log2 with h2 | h2
    · have h3 := Nat.pow_le_pow_right (n := 2) (by decide) h2
      omega
    · exact h2
theorem cut_zero (n : Nat) : Toward.even.cut false n 0 = n := by
  unfold Toward.cut
  simp [Nat.mod_one]
theorem cut_exact (n d : Nat) (hn : n ≠ 0) : Toward.even.cut false (n * 2 ^ d) d = n := by
  have hl := log_mul n d hn
  have hm : min d ((n * 2 ^ d).log2 + 2) = d := by omega
  have hp := Nat.two_pow_pos d
  have hq : n * 2 ^ d / 2 ^ d = n := Nat.mul_div_cancel _ hp
  have hr : n * 2 ^ d % 2 ^ d = 0 := Nat.mul_mod_left _ _
  unfold Toward.cut
  rw [hm, Nat.one_shiftLeft]
  simp only [hq, hr]
  have h1 : decide (2 ^ d < 2 * 0) = false := by simp
  have h2 : (2 ^ d == 2 * 0) = false := by rw [beq_eq_false_iff_ne]; omega
  simp [h2]
/-- Whatever its last places are. -/
theorem write_rep {n k : Nat} (hn : n ≠ 0) (h : n < 2 ^ 53) : double.write (.number false (n * 2 ^ k) (-(k : Int))) = (n.log2 + 1022) * 2 ^ 52 + n * 2 ^ (52 - n.log2) := by
  have hl := log_le h
  have hlm := log_mul n k hn
  have h0 : n * 2 ^ k ≠ 0 := Nat.mul_ne_zero hn (by have := Nat.two_pow_pos k; omega)
  have hlast : max (-(k : Int) + ((n.log2 + k : Nat) : Int) - (double.fractionBits : Int)) double.leastPlace = (n.log2 : Int) - 52 := by
    rw [dbl_frac, dbl_least]; omega
  have hkept : Toward.even.cut false ((n * 2 ^ k) <<< (-(k : Int) - ((n.log2 : Int) - 52)).toNat) (((n.log2 : Int) - 52) - -(k : Int)).toNat = n * 2 ^ (52 - n.log2) := by
    rcases Nat.lt_or_ge 52 (n.log2 + k) with h1 | h1
    · have e1 : (-(k : Int) - ((n.log2 : Int) - 52)).toNat = 0 := by omega
      have e2 : (((n.log2 : Int) - 52) - -(k : Int)).toNat = n.log2 + k - 52 := by omega
      have e3 : n * 2 ^ k = n * 2 ^ (52 - n.log2) * 2 ^ (n.log2 + k - 52) := by
        rw [Nat.mul_assoc, ← Nat.pow_add]; congr 2; omega
      rw [e1, e2, Nat.shiftLeft_zero, e3]
      exact cut_exact _ _ (Nat.mul_ne_zero hn (by have := Nat.two_pow_pos (52 - n.log2); omega))
    · have e1 : (-(k : Int) - ((n.log2 : Int) - 52)).toNat = 52 - n.log2 - k := by omega
      have e2 : (((n.log2 : Int) - 52) - -(k : Int)).toNat = 0 := by omega
      rw [e1, e2, cut_zero, Nat.shiftLeft_eq, Nat.mul_assoc, ← Nat.pow_add]
      congr 2; omega
  have hbig : n * 2 ^ (52 - n.log2) < 2 ^ 53 := by
    have h2 := Nat.lt_log2_self (n := n)
    have h3 : n * 2 ^ (52 - n.log2) < 2 ^ (n.log2 + 1) * 2 ^ (52 - n.log2) := Nat.mul_lt_mul_of_pos_right h2 (Nat.two_pow_pos _)
    rw [← Nat.pow_add, show n.log2 + 1 + (52 - n.log2) = 53 by omega] at h3
    exact h3
  have hw : double.write (.number false (n * 2 ^ k) (-(k : Int))) = double.nearest false (n * 2 ^ k) (-(k : Int)) := rfl
  rw [hw]
  unfold Format.nearest
  rw [if_neg h0, hlm]
  simp only [hlast, hkept]
  have e3 : (((n.log2 : Int) - 52) - double.leastPlace).toNat = n.log2 + 1022 := by
    rw [dbl_least]; omega
  rw [e3, dbl_inf, dbl_bin]
  unfold Format.word
  simp only [Bool.false_eq_true, if_false]
  generalize n * 2 ^ (52 - n.log2) = K at hbig ⊢
  generalize n.log2 = l at hl ⊢
  clear hw hlast hkept h0 hlm e3
  exact Nat.min_eq_left (by omega)
theorem fl_zero : fl 0 = 0 := by decide +kernel
theorem fl_eq {n : Nat} (hn : n ≠ 0) (h : n < 2 ^ 53) : fl n = (n.log2 + 1022) * 2 ^ 52 + n * 2 ^ (52 - n.log2) := by
  have := write_rep (k := 0) hn h
  rw [Nat.pow_zero, Nat.mul_one] at this
  exact this
/-- Read again. -/
theorem read_fl {n : Nat} (h : n < 2 ^ 53) : ∃ k : Nat, double.read (fl n) = .number false (n * 2 ^ k) (-(k : Int)) := by
  by_cases hn : n = 0
  · subst hn
    obtain ⟨K, hK⟩ : ∃ K : Nat, 1074 = K := ⟨_, rfl⟩
    refine ⟨K, ?_⟩
    rw [Nat.zero_mul, ← hK]
    decide +kernel
  · have hl := log_le h
    refine ⟨52 - n.log2, ?_⟩
    rw [fl_eq hn h]
    have h1 := Nat.log2_self_le hn
    have h2 := Nat.lt_log2_self (n := n)
    have hlo : 2 ^ 52 ≤ n * 2 ^ (52 - n.log2) := by
      have h3 : 2 ^ n.log2 * 2 ^ (52 - n.log2) ≤ n * 2 ^ (52 - n.log2) := Nat.mul_le_mul_right _ h1
      rw [← Nat.pow_add, show n.log2 + (52 - n.log2) = 52 by omega] at h3
      exact h3
    have hhi : n * 2 ^ (52 - n.log2) < 2 ^ 53 := by
      have h3 : n * 2 ^ (52 - n.log2) < 2 ^ (n.log2 + 1) * 2 ^ (52 - n.log2) := Nat.mul_lt_mul_of_pos_right h2 (Nat.two_pow_pos _)
      rw [← Nat.pow_add, show n.log2 + 1 + (52 - n.log2) = 53 by omega] at h3
      exact h3
    obtain ⟨K, hK⟩ : ∃ v, n * 2 ^ (52 - n.log2) = v := ⟨_, rfl⟩
    obtain ⟨l, hll⟩ : ∃ v, n.log2 = v := ⟨_, rfl⟩
    rw [hK] at hlo hhi ⊢
    rw [hll] at hl ⊢
    have e1 := dbl_sign
    have e2 : double.binade = 4503599627370496 := by decide +kernel
    have e3 : double.infRung = 9218868437227405312 := by decide +kernel
    have e4 := dbl_least
    have p1 : (2 : Nat) ^ 52 = 4503599627370496 := by decide
    have p2 : (2 : Nat) ^ 53 = 9007199254740992 := by decide
    rw [p1] at hlo ⊢
    rw [p2] at hhi
    unfold Format.read
    rw [e1, e2, e3, e4]
    have q1 : ((l + 1022) * 4503599627370496 + K) / 9223372036854775808 % 2 = 0 := by omega
    have q2 : ((l + 1022) * 4503599627370496 + K) % 9223372036854775808 = (l + 1022) * 4503599627370496 + K := by omega
    have q3 : ((l + 1022) * 4503599627370496 + K) / 4503599627370496 = l + 1023 := by omega
    have q4 : ((l + 1022) * 4503599627370496 + K) % 4503599627370496 = K - 4503599627370496 := by omega
    simp only [q1, q2, q3, q4]
    rw [if_neg (by omega), if_pos (by omega)]
    have q5 : 4503599627370496 + (K - 4503599627370496) = K := by omega
    have q6 : (-1074 : Int) + ((l + 1023 - 1 : Nat) : Int) = -((52 - l : Nat) : Int) := by omega
    rw [q5, q6]
    rfl
theorem cut_zero_exact (n k : Nat) : Toward.zero.cut false (n * 2 ^ k) k = n := by
  by_cases hn : n = 0
  · subst hn
    unfold Toward.cut
    simp
  · have hl := log_mul n k hn
    have hm : min k ((n * 2 ^ k).log2 + 2) = k := by omega
    have hq : n * 2 ^ k / 2 ^ k = n := Nat.mul_div_cancel _ (Nat.two_pow_pos k)
    unfold Toward.cut
    rw [hm, Nat.one_shiftLeft]
    simp only [hq]
    rfl
/-- Back to a whole number. -/
theorem toInt_fl {n : Nat} (h : n < 2 ^ 53) : (double.read (fl n)).toInt .zero = some (n : Int) := by
  obtain ⟨k, hk⟩ := read_fl h
  rw [hk]
  have e1 : (-(k : Int)).toNat = 0 := by omega
  have e2 : (-(-(k : Int))).toNat = k := by omega
  have e3 : (Datum.number false (n * 2 ^ k) (-(k : Int))).integral .zero = .number false n 0 := by
    show Datum.number false (Toward.zero.cut false ((n * 2 ^ k) <<< (-(k : Int)).toNat) (-(-(k : Int))).toNat) 0 = _
    rw [e1, e2, Nat.shiftLeft_zero, cut_zero_exact]
  unfold Datum.toInt
  rw [e3]
  show some (signed false n 0) = _
  unfold signed
  rw [if_neg (by decide), Nat.shiftLeft_zero]
/-- In the model's words. -/
theorem flOfInt (n : Nat) : floatOfInt .f64 (n : Int) = fl n := by
  show FloatKind.f64.nearest (n : Int) = _
  rfl
theorem fl_toU64 {n : Nat} (h : n < 2 ^ 53) : floatToIntVal .f64 (fl n) .u64 = some (n : Int) := by
  unfold floatToIntVal
  have e : (FloatKind.f64.decode (fl n)).toInt .zero = some (n : Int) := toInt_fl h
  rw [e]
  have p2 : (2 : Nat) ^ 53 = 9007199254740992 := by decide
  rw [p2] at h
  have h1 : IntKind.u64.min ≤ (n : Int) ∧ (n : Int) ≤ IntKind.u64.max := by
    have e1 : IntKind.u64.min = 0 := by decide
    have e2 : IntKind.u64.max = 18446744073709551615 := by decide
    rw [e1, e2]; omega
  exact if_pos h1
end Go.Proofs.Ytgogafhpchfinaa
/- Slices of slices of bytes in new memory: appended to, as rows. -/
namespace Go.Proofs.Ytgogafhpchfinaa
open Go.RowKit

/-- New memory: a slice of slices in a block from base on. -/
def OwnRows (w : World) (base : Nat) (e : TypeId) (A : Option Addr) (n c : Nat) (rs : List RowV) : Prop :=
  w.ownsRow base e 1 (.slice A n c) n (rs.map RowV.val)
namespace OwnRows
variable {w w' : World} {base n c : Nat} {e : TypeId} {A : Option Addr} {rs : List RowV}
theorem length (h : OwnRows w base e A n c rs) : rs.length = n := by have := h.1; simpa using this
theorem none_ (w : World) (base : Nat) (e : TypeId) : OwnRows w base e none 0 0 [] := World.ownsRow_nil w base e 1
theorem keep (h : OwnRows w base e A n c rs) (k : Keep w w') : OwnRows w' base e A n c rs :=
  h.kept (row := none) ⟨k.os, k.tape, k.output, k.size, fun i hi _ => k.block i hi⟩ (by
    cases hb : (Value.slice A n c).ownBlock with
    | none => exact Or.inl rfl
    | some g => exact Or.inr (by simp))
theorem alloc (h : OwnRows w base e A n c rs) (o : Obj) : OwnRows (w.alloc o) base e A n c rs := World.ownsRow.alloc h o
theorem drew (h : OwnRows w base e A n c rs) : OwnRows w.drew base e A n c rs := h
/-- Where it lies. -/
theorem block (h : OwnRows w base e A n c rs) (hn : 0 < n) : ∃ g, A = some ⟨g, 0, none⟩ ∧ base ≤ g ∧ g < w.heap.size := by
  rcases h.2 with ⟨hv, h0⟩ | ⟨g, cap, cur, hv, hg, hh, _⟩
  · omega
  · injection hv with h1 h2 h3
    exact ⟨g, h1, hg, (Array.getElem?_eq_some_iff.1 hh).1⟩
end OwnRows
section
variable {P : Program}
end
end Go.Proofs.Ytgogafhpchfinaa
/- Objects with footprints: what turns within a set of blocks; rows that lie in a set of blocks. -/
namespace Go.Proofs.Ytgogafhpchfinaa
open Go.RowKit
/-- Nothing outside of F has turned; new blocks may lie behind. -/
structure Turned (F : Nat → Prop) (w w' : World) : Prop where
  os : w'.os = w.os
  tape : w'.tape = w.tape
  output : w'.output = w.output
  size : w.heap.size ≤ w'.heap.size
  block : ∀ k, k < w.heap.size → ¬ F k → w'.heap[k]? = w.heap[k]?
namespace Turned
variable {F F' : Nat → Prop} {W w w' a b c : World}
theorem refl (F : Nat → Prop) (w : World) : Turned F w w := ⟨rfl, rfl, rfl, Nat.le_refl _, fun _ _ _ => rfl⟩
theorem of_keep (k : Keep w w') : Turned F w w' := ⟨k.os, k.tape, k.output, k.size, fun i hi _ => k.block i hi⟩
theorem of_grown {row : Option Nat} (k : w.grownBy w' row) (h : ∀ i, row = some i → F i) : Turned F w w' :=
  ⟨k.os, k.tape, k.output, k.size, fun i hi hn => k.block i hi fun e => hn (h i e.symm)⟩
theorem trans (h : Turned F a b) (k : Turned F' b c) (hF : ∀ i, F' i → F i ∨ a.heap.size ≤ i) : Turned F a c :=
  ⟨k.os.trans h.os, k.tape.trans h.tape, k.output.trans h.output, Nat.le_trans h.size k.size, fun i hi hn => (k.block i (Nat.lt_of_lt_of_le hi h.size) fun e => by
    rcases hF i e with e | e
    · exact hn e
    · omega).trans (h.block i hi hn)⟩
theorem mono (h : Turned F w w') (hF : ∀ i, i < w.heap.size → F i → F' i) : Turned F' w w' := ⟨h.os, h.tape, h.output, h.size, fun i hi hn => h.block i hi fun e => hn (hF i hi e)⟩
theorem keep (k : Turned F w w') (h : Keep W w) (hF : ∀ i, F i → W.heap.size ≤ i) : Keep W w' :=
  Below.trans h ⟨k.os, k.tape, k.output, k.size, fun i hi => k.block i (Nat.lt_of_lt_of_le hi h.size) fun e => by have := hF i e; omega⟩
theorem keep_new (k : Turned F w w') (hF : ∀ i, F i → w.heap.size ≤ i) : Keep w w' := k.keep (Keep.refl w) hF
theorem cell (k : Turned F w w') {p : Addr} {v : Value} (h : w.cell? p = some v) (hn : ¬ F p.block) : w'.cell? p = some v :=
  (World.cell?_of_block (k.block p.block (World.block_lt_of_cell? w p h) hn)).trans h
theorem set (w : World) (p : Addr) (v : Value) (h : F p.block) : Turned F w (w.setCell p v) :=
  ⟨rfl, rfl, rfl, by simp [World.setCell], fun i _ hi => Below.heap_setCell w p v i (fun e => hi (by rw [e]; exact h))⟩
/-- Of a block's row. -/
theorem owns {base n size : Nat} {e : TypeId} {v : Value} {xs : List Value} (h : w.ownsRow base e size v n xs) (k : Turned F w w') (hn : ∀ b, v.ownBlock = some b → ¬ F b) : w'.ownsRow base e size v n xs := by
  refine ⟨h.1, ?_⟩
  rcases h.2 with hv | ⟨g, cap, cur, hv, hb, hg, rest⟩
  · exact Or.inl hv
  · exact Or.inr ⟨g, cap, cur, hv, hb, (k.block g (Array.getElem?_eq_some_iff.1 hg).1 (hn g (by rw [hv]; rfl))).trans hg, rest⟩
end Turned
theorem Own.turned {F : Nat → Prop} {w w' : World} {base n c : Nat} {e : TypeId} {A : Option Addr} {xs : List Nat} (h : Own w base e A n c xs) (k : Turned F w w') (hn : ∀ b, (Value.slice A n c).ownBlock = some b → ¬ F b) : Own w' base e A n c xs :=
  ⟨k.owns h.1 hn, h.2⟩
theorem OwnRows.turned {F : Nat → Prop} {w w' : World} {base n c : Nat} {e : TypeId} {A : Option Addr} {rs : List RowV} (h : OwnRows w base e A n c rs) (k : Turned F w w') (hn : ∀ b, (Value.slice A n c).ownBlock = some b → ¬ F b) : OwnRows w' base e A n c rs :=
  k.owns h hn
/-- A row of bytes in blocks of F. -/
def LiesIn (w : World) (F : Nat → Prop) (r : RowV) : Prop :=
  r.xs.length = r.n ∧ AllB r.xs ∧ r.n ≤ r.c ∧ (0 < r.n → ∃ b off, r.A = some ⟨b, off, none⟩ ∧ F b ∧ ∀ i, i < r.n → w.cell? ⟨b, off + i, none⟩ = some (.int .u8 ((r.xs.getD i 0 : Nat) : Int)))
namespace LiesIn
variable {F F' G : Nat → Prop} {w w' : World} {r : RowV}
theorem bytes {B : Nat} (h : LiesIn w F r) (hB : ∀ b, F b → b < B) : Bytes w B r.A r.n r.xs := ⟨h.1, h.2.1, fun hp => by
  obtain ⟨b, off, e, hb, hc⟩ := h.2.2.2 hp
  exact ⟨b, off, e, hB b hb, hc⟩⟩
theorem turned (h : LiesIn w F r) (k : Turned G w w') (hd : ∀ b, F b → ¬ G b) : LiesIn w' F r := ⟨h.1, h.2.1, h.2.2.1, fun hp => by
  obtain ⟨b, off, e, hb, hc⟩ := h.2.2.2 hp
  exact ⟨b, off, e, hb, fun i hi => k.cell (hc i hi) (hd b hb)⟩⟩
theorem mono (h : LiesIn w F r) (hF : ∀ b, F b → F' b) : LiesIn w F' r := ⟨h.1, h.2.1, h.2.2.1, fun hp => by
  obtain ⟨b, off, e, hb, hc⟩ := h.2.2.2 hp
  exact ⟨b, off, e, hF b hb, hc⟩⟩
theorem nothing (w : World) (F : Nat → Prop) : LiesIn w F ⟨none, 0, 0, []⟩ := ⟨rfl, fun _ h => by simp at h, Nat.le_refl _, fun h => absurd h (by simp)⟩
end LiesIn
theorem own_le' {w : World} {base n c : Nat} {e : TypeId} {A : Option Addr} {xs : List Nat} (h : Own w base e A n c xs) : n ≤ c := by
  rcases h.1.2 with ⟨hv, h0⟩ | ⟨g, cap, cur, hv, _, _, hle, _⟩
  · omega
  · injection hv with _ _ h3; omega
theorem Own.lies {w : World} {base n c : Nat} {e : TypeId} {A : Option Addr} {xs : List Nat} (h : Own w base e A n c xs) : LiesIn w (fun b => (Value.slice A n c).ownBlock = some b) ⟨A, n, c, xs⟩ :=
  ⟨h.length, h.2, own_le' h, fun hp => by
    obtain ⟨g, rfl, _, _⟩ := h.block hp
    refine ⟨g, 0, rfl, rfl, fun i hi => ?_⟩
    rw [Nat.zero_add]; exact h.cell hi⟩
/-- A slice of rows in blocks of F, its own block among them. -/
def RowsIn (w : World) (F : Nat → Prop) (A : Option Addr) (n : Nat) (rs : List RowV) : Prop :=
  rs.length = n ∧ (∀ r ∈ rs, LiesIn w F r) ∧ (0 < n → ∃ b off, A = some ⟨b, off, none⟩ ∧ F b ∧ ∀ i r, rs[i]? = some r → w.cell? ⟨b, off + i, none⟩ = some r.val)
namespace RowsIn
variable {F F' G : Nat → Prop} {w w' : World} {A : Option Addr} {n : Nat} {rs : List RowV}
theorem turned (h : RowsIn w F A n rs) (k : Turned G w w') (hd : ∀ b, F b → ¬ G b) : RowsIn w' F A n rs := ⟨h.1, fun r hr => (h.2.1 r hr).turned k hd, fun hp => by
  obtain ⟨b, off, e, hb, hc⟩ := h.2.2 hp
  exact ⟨b, off, e, hb, fun i r hi => k.cell (hc i r hi) (hd b hb)⟩⟩
theorem mono (h : RowsIn w F A n rs) (hF : ∀ b, F b → F' b) : RowsIn w F' A n rs := ⟨h.1, fun r hr => (h.2.1 r hr).mono hF, fun hp => by
  obtain ⟨b, off, e, hb, hc⟩ := h.2.2 hp
  exact ⟨b, off, e, hF b hb, hc⟩⟩
theorem nothing (w : World) (F : Nat → Prop) (A : Option Addr) : RowsIn w F A 0 [] := ⟨rfl, fun _ h => by simp at h, fun h => absurd h (by omega)⟩
theorem of_own {base c : Nat} {e : TypeId} (h : OwnRows w base e A n c rs) (hr : ∀ r ∈ rs, LiesIn w F r) (hF : ∀ b, (Value.slice A n c).ownBlock = some b → F b) : RowsIn w F A n rs := by
  refine ⟨h.length, hr, fun hn => ?_⟩
  obtain ⟨g, rfl, _, hlt⟩ := h.block hn
  refine ⟨g, 0, rfl, hF g rfl, fun i r hi => ?_⟩
  have hc := World.ownsRow.cells h (g := g) rfl i r.val (by rw [List.getElem?_map, hi]; rfl)
  have ha : (⟨g, 0, none⟩ : Addr).add i = ⟨g, 0 + i, none⟩ := by unfold Addr.add; split <;> simp_all
  rwa [ha] at hc
theorem at_ (h : RowsIn w F A n rs) {k : Nat} (hk : k < n) : ∃ b off r, A = some ⟨b, off, none⟩ ∧ F b ∧ rs[k]? = some r ∧ w.cell? ⟨b, off + k, none⟩ = some (.slice r.A r.n r.c) ∧ LiesIn w F r := by
  obtain ⟨b, off, e, hb, hc⟩ := h.2.2 (by omega)
  have hl : k < rs.length := by rw [h.1]; exact hk
  exact ⟨b, off, rs[k], e, hb, List.getElem?_eq_getElem hl, hc k _ (List.getElem?_eq_getElem hl), h.2.1 _ (List.getElem_mem hl)⟩
end RowsIn
/-- The address of a slice cut at its head. -/
def dropA (A : Option Addr) (c s : Nat) : Option Addr := if c = s then A else A.map (·.add s)
theorem dropA_some (b off c s : Nat) (h : s < c) : dropA (some ⟨b, off, none⟩) c s = some ⟨b, off + s, none⟩ := by
  rw [dropA, if_neg (by omega)]
  simp only [Option.map_some, Addr.add]
  split <;> simp_all
theorem RowsIn.drop {F : Nat → Prop} {w : World} {A : Option Addr} {n c s : Nat} {rs : List RowV} (h : RowsIn w F A n rs) (hc : n ≤ c) : RowsIn w F (dropA A c s) (n - s) (rs.drop s) := by
  refine ⟨by rw [List.length_drop, h.1], fun r hr => h.2.1 r (List.mem_of_mem_drop hr), fun hp => ?_⟩
  obtain ⟨b, off, rfl, hb, hcell⟩ := h.2.2 (by omega)
  refine ⟨b, off + s, dropA_some b off c s (by omega), hb, fun i r hi => ?_⟩
  rw [List.getElem?_drop] at hi
  rw [Nat.add_assoc]; exact hcell (s + i) r hi
end Go.Proofs.Ytgogafhpchfinaa
/- What a call hands back that lays bytes in new memory. -/
namespace Go.Proofs.Ytgogafhpchfinaa
open Go.RowKit
/-- .. and an error. -/
def NewPair (w : World) (xs : List Nat) (er : Int) (r : Ending) (w' : World) : Prop :=
  ∃ A n c, r = .returned (.tuple #[.slice A n c, .int .i64 er]) ∧ Own w' w.heap.size 5 A n c xs ∧ Keep w w'
theorem NewPair.nil (w : World) (er : Int) : NewPair w [] er (.returned (.tuple #[.slice none 0 0, .int .i64 er])) w := ⟨none, 0, 0, rfl, Own.none_ _ _ _, Keep.refl _⟩
end Go.Proofs.Ytgogafhpchfinaa
