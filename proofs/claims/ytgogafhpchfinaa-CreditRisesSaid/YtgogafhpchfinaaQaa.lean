/- Words for memory: nothing that was there has turned. -/
import Derived.Below
import Derived.Carry
import Derived.Laws.Rows
import Derived.Deep.Draws
import Derived.ChangeOld
import Derived.ChangeShapes
import Derived.OpenShut
import Derived.SizedLaws
import Derived.JoinedOf
import Derived.ProofKit
import Derived.Laws.BytesArg
import Derived.Laws.AppendOwn
import Derived.Laws.OwnMore
import Derived.Laws.MakeOwn
import Derived.Maps.AppendAt
import Derived.OwnWalk
import Derived.Deep.Slices
import Derived.Laws.Slices
import Derived.Test.YtgogafhpchfinaaProg
import Derived.WalkKit
import Derived.WalkSpells
import Derived.Lib.Hide
import Derived.Deep.RegionHeld3
import Derived.Deep.AppendLies
import Derived.Deep.QuietTactic
import Derived.BigQuiet
import Derived.Laws.FloatArith
import Derived.Laws.Cover2
import Derived.Laws.ComplexArith
import Derived.StillTailTactics
import Derived.Laws.EntriesVeiled
namespace Go.Proofs.Ytgogafhpchfinaa
open Go.RowKit

/-- Nothing of what was there has turned; new blocks may lie behind. -/
def Keep (w w' : World) : Prop := Below w.heap.size w w'
namespace Keep
variable {W w w' : World}
theorem refl (w : World) : Keep w w := Below.refl _ _
theorem trans {a b c : World} (h : Keep a b) (k : Keep b c) : Keep a c := Below.trans h (Below.mono k (Below.size h))
theorem alloc (h : Keep W w) (c : Array Value) (t : TypeId) : Keep W (w.alloc (.cells c t)) := Below.alloc h (Below.size h) _
theorem setCell (h : Keep W w) {a : Addr} (ha : W.heap.size ≤ a.block) (v : Value) : Keep W (w.setCell a v) := Below.setCell h ha v
theorem drew (h : Keep W w) : Keep W w.drew := Below.drew h
theorem block (h : Keep W w) (k : Nat) (hk : k < W.heap.size) : w.heap[k]? = W.heap[k]? := Below.block h k hk
theorem size (h : Keep W w) : W.heap.size ≤ w.heap.size := Below.size h
end Keep
end Go.Proofs.Ytgogafhpchfinaa
/- From a walk to a law's statement: a law that answers true and turns nothing that was there. -/
namespace Go.Proofs.Ytgogafhpchfinaa
open Go.ChangeShapes Go.WideShapes Go.ChangeAt Go.RowKit

section
variable {H : Type} {enc : TypeId × Value → H} {P : Program}

/-- The arguments read behind the call as they did before. -/
theorem args_kept (hl : laidOutB P = true) {W W' : World} (hb : Below W.heap.size W W') : ∀ {ts : List TypeId} {vs : List Value} {ds : List (DataW H)} {ps : List MemPlace},
    (∀ t ∈ ts, P.readableRec t = true ∧ t < P.types.size) → DataW.TrodAll enc P W 0 (fun _ => true) true ts vs ds ps → (∀ x ∈ ps, x.block < W.heap.size) →
    DataW.TrodAll enc P W' 0 (fun b => decide (b < W.heap.size)) true ts vs ds ps := by
  intro ts
  induction ts with
  | nil =>
    intro vs ds ps _ h _
    obtain ⟨rfl, rfl, rfl⟩ := trodAll_nil h
    exact trodAll_mk0
  | cons t ts ih =>
    intro vs ds ps hr h hlt
    obtain ⟨v, vs, d, ds, p, p', rfl, rfl, rfl, h0, h1⟩ := trodAll_cons h
    obtain ⟨r1, r2⟩ := hr t (by simp)
    exact trodAll_cons_mk (Below.trod hl r1 r2 h0 hb fun x hx => hlt x (by simp [hx])) (ih (fun t ht => hr t (by simp [ht])) h1 fun x hx => hlt x (by simp [hx]))

theorem args_length {W : World} {base : Nat} {sp : Nat → Bool} {held : Bool} : ∀ {ts : List TypeId} {vs : List Value} {ds : List (DataW H)} {ps : List MemPlace}, DataW.TrodAll enc P W base sp held ts vs ds ps → ds.length = ts.length := by
  intro ts
  induction ts with
  | nil =>
    intro vs ds ps h
    obtain ⟨rfl, rfl, rfl⟩ := trodAll_nil h
    rfl
  | cons t ts ih =>
    intro vs ds ps h
    obtain ⟨v, vs, d, ds, p, p', rfl, rfl, rfl, h0, h1⟩ := trodAll_cons h
    simp [ih h1]

/-- A law whose walk answers true and turns nothing that was there: what is handed over. -/
theorem law_handed {C : Checked} {os : Os} {f : FuncId} {fn : Func} {s : ChangeSpec}
    (own : ownKnob C.prog.godebug = none) (started : os.Started) (noInit : C.prog.inits.idxOf? f = none) (hfn : C.prog.funcs[f]? = some fn)
    (witness : ∃ (w : World) (tape : Tape) (i : Input), w.os = os ∧ (w.forCall tape i).Shaped C.prog ∧ i.vars = [] ∧ Input.okWide C.prog (w.forCall tape i) .any w.heap.size f i ∧
      s.pre6 enc C.prog fn [] false (w.forCall tape i).memory i.args ∧ ({} : Assume).holds C.prog (lone (Frame.enter C.prog f i.args .normal) [] (w.forCall tape i)))
    (hl : laidOutB C.prog = true) (hr : ∀ t ∈ fn.params.toList, C.prog.readableRec t = true ∧ t < C.prog.types.size) {tb : TypeId} (hres : fn.resultTypes = #[tb]) (htb : C.prog.underlying tb = some .bool)
    (hvars : s.vars = []) (hspec : ∀ ds : List (DataW H), ds.length = fn.params.size → s.fn H (ds ++ []) = { results := [.lit (.bool true)], args := ds })
    (walk : ∀ (W : World) (base : Nat) (args : Array Value) (ds : List (DataW H)) (p : List MemPlace),
      (∀ (j : Nat) t v, fn.params[j]? = some t → args[j]? = some v → Value.okWide C.prog W .any base t v) →
      DataW.TrodAll enc C.prog W 0 (fun _ => true) true fn.params.toList args.toList ds p →
      (DataW.weightsEach C.prog fn.params.toList ds).all (· ≤ reachBytes) = true →
      Calls C.prog f args W fun e W' => e = .returned (.bool true) ∧ Below W.heap.size W W') :
    ReturnsInHanded {} C os f .any (s.pre6 enc C.prog fn [] false) (s.post enc C.prog fn false true false false) := by
  refine returnsInHanded_of_change_sized own started noInit hfn witness ?_
  intro W base args ds gs before hval hW _ hsz _
  have hW' := hW
  obtain ⟨p, q, hA, hV, rfl, _, _⟩ := hW
  rw [hvars] at hV
  obtain ⟨rfl, rfl⟩ := trodVars_none hV
  have hty : s.plain.varTypes C.prog = [] := by
    show DataSpec.varTypes C.prog s.plain = []
    have h1 : s.plain.vars = [] := hvars
    unfold DataSpec.varTypes
    rw [h1]
    rfl
  rw [hty] at hsz
  simp only [List.append_nil] at hsz hW'
  have hlen : ds.length = fn.params.size := by simpa using args_length hA
  have hlt : ∀ x ∈ p, x.block < W.heap.size := DataW.TrodAll.lt hA
  refine (walk W base args ds p hval hA hsz).mono fun e W' ⟨he, bel⟩ => ?_
  subst he
  have hsp := hspec ds hlen
  refine ⟨_, rfl, ds, [], p, [], p, [], hW', ?_, ?_, ?_, bel.frame _, fun h => by cases h⟩
  · rw [hsp, hres]
    exact trodAll_mk1 (shut_bool htb _)
  · rw [hsp]
    exact args_kept hl bel hr hA hlt
  · rw [hsp, hvars]
    rfl
end
end Go.Proofs.Ytgogafhpchfinaa
/- Slices of bytes: what they hold, in memory that was there or is new; as strings. -/
namespace Go.Proofs.Ytgogafhpchfinaa
open Go.RowKit Go.ChangeShapes Go.WideShapes

/-- Bytes as cells. -/
def u8s (xs : List Nat) : List Value := xs.map fun x : Nat => Value.int .u8 (x : Int)
def AllB (xs : List Nat) : Prop := ∀ x ∈ xs, x < 256
theorem u8s_get (xs : List Nat) (i : Nat) : (u8s xs)[i]? = xs[i]?.map fun x : Nat => Value.int .u8 (x : Int) := by simp [u8s]
theorem AllB.at {xs : List Nat} (h : AllB xs) (i : Nat) (hi : i < xs.length) : xs[i] < 256 := h _ (List.getElem_mem hi)
theorem AllB.getD {xs : List Nat} (h : AllB xs) (i : Nat) : xs.getD i 0 < 256 := by
  rw [List.getD_eq_getElem?_getD]
  cases e : xs[i]? with
  | none => exact (by decide : 0 < 256)
  | some x => exact h x (List.mem_of_getElem? e)
theorem AllB.take {xs : List Nat} (h : AllB xs) (n : Nat) : AllB (xs.take n) := fun x hx => h x (List.mem_of_mem_take hx)

/-- A slice of n bytes at A, below block B: they are xs. -/
def Bytes (w : World) (B : Nat) (A : Option Addr) (n : Nat) (xs : List Nat) : Prop :=
  xs.length = n ∧ AllB xs ∧ (0 < n → ∃ b off, A = some ⟨b, off, none⟩ ∧ b < B ∧ ∀ i, i < n → w.cell? ⟨b, off + i, none⟩ = some (.int .u8 ((xs.getD i 0 : Nat) : Int)))
namespace Bytes
variable {w w' : World} {B B' n : Nat} {A : Option Addr} {xs : List Nat}
theorem length (h : Bytes w B A n xs) : xs.length = n := h.1
theorem all (h : Bytes w B A n xs) : AllB xs := h.2.1
theorem nil (w : World) (B : Nat) (A : Option Addr) : Bytes w B A 0 [] := ⟨rfl, fun _ h => by simp at h, fun h => absurd h (by omega)⟩
theorem below (h : Bytes w B A n xs) (k : Below B w w') : Bytes w' B A n xs := ⟨h.1, h.2.1, fun hn => by
  obtain ⟨b, off, e, hb, hc⟩ := h.2.2 hn
  exact ⟨b, off, e, hb, fun i hi => (k.cell (p := ⟨b, off + i, none⟩) hb).trans (hc i hi)⟩⟩
theorem keep (h : Bytes w B A n xs) (hB : B ≤ w.heap.size) (k : Keep w w') : Bytes w' B A n xs := h.below (Below.mono k hB)
theorem mono (h : Bytes w B A n xs) (hB : B ≤ B') : Bytes w B' A n xs := ⟨h.1, h.2.1, fun hn => by
  obtain ⟨b, off, e, hb, hc⟩ := h.2.2 hn
  exact ⟨b, off, e, by omega, hc⟩⟩
end Bytes

section
variable {P : Program}
end

/-- New memory: a slice of n bytes in a block from base on, which may be written. -/
def Own (w : World) (base : Nat) (e : TypeId) (A : Option Addr) (n c : Nat) (xs : List Nat) : Prop :=
  w.ownsRow base e 1 (.slice A n c) n (u8s xs) ∧ AllB xs
namespace Own
variable {w w' : World} {base n c : Nat} {e : TypeId} {A : Option Addr} {xs : List Nat}
theorem length (h : Own w base e A n c xs) : xs.length = n := by have := h.1.1; simpa [u8s] using this
theorem none_ (w : World) (base : Nat) (e : TypeId) : Own w base e none 0 0 [] := ⟨World.ownsRow_nil w base e 1, fun _ h => by simp at h⟩
/-- Where it lies. -/
theorem block (h : Own w base e A n c xs) (hn : 0 < n) : ∃ g, A = some ⟨g, 0, none⟩ ∧ base ≤ g ∧ g < w.heap.size := by
  rcases h.1.2 with ⟨hv, h0⟩ | ⟨g, cap, cur, hv, hg, hh, _⟩
  · omega
  · injection hv with h1 h2 h3
    exact ⟨g, h1, hg, (Array.getElem?_eq_some_iff.1 hh).1⟩
theorem bytes (h : Own w base e A n c xs) : Bytes w w.heap.size A n xs := by
  refine ⟨h.length, h.2, fun hn => ?_⟩
  obtain ⟨g, rfl, _, hlt⟩ := h.block hn
  refine ⟨g, 0, rfl, hlt, fun i hi => ?_⟩
  have hl : i < xs.length := by rw [h.length]; exact hi
  have hc := h.1.cells (g := g) rfl i (.int .u8 ((xs.getD i 0 : Nat) : Int)) (by rw [u8s_get]; simp [List.getD, hl])
  have ha : (⟨g, 0, none⟩ : Addr).add i = ⟨g, 0 + i, none⟩ := by unfold Addr.add; split <;> simp_all
  rwa [ha] at hc
theorem keep (h : Own w base e A n c xs) (k : Keep w w') : Own w' base e A n c xs :=
  ⟨h.1.kept (row := none) ⟨k.os, k.tape, k.output, k.size, fun i hi _ => k.block i hi⟩ (by
    cases hb : (Value.slice A n c).ownBlock with
    | none => exact Or.inl rfl
    | some g => exact Or.inr (by simp)), h.2⟩
end Own

theorem Bytes.cells {w : World} {B n b off : Nat} {xs : List Nat} (h : Bytes w B (some ⟨b, off, none⟩) n xs) (hn : 0 < n) : ∀ j u, (u8s xs)[j]? = some u → w.cell? ((⟨b, off, none⟩ : Addr).add j) = some u := by
  obtain ⟨b', off', e, _, hc⟩ := h.2.2 hn
  injection e with e
  injection e with e1 e2
  subst e1; subst e2
  intro j u hu
  rw [u8s_get] at hu
  have hj : j < xs.length := by
    rcases Nat.lt_or_ge j xs.length with hj | hj
    · exact hj
    · rw [List.getElem?_eq_none hj] at hu; cases hu
  have ha : (⟨b, off, none⟩ : Addr).add j = ⟨b, off + j, none⟩ := by unfold Addr.add; split <;> simp_all
  rw [ha, hc j (by rw [← h.1]; exact hj), ← hu]
  simp [List.getD, hj]

section
variable {P : Program}
/-- One byte in a block of its own. -/
theorem Bytes.one (w : World) (v : Nat) (hv : v < 256) (t : TypeId) : Bytes (w.alloc (.cells #[.int .u8 (v : Int)] t)) (w.heap.size + 1) (some ⟨w.heap.size, 0, none⟩) 1 [v] :=
  ⟨rfl, fun x hx => by simp at hx; omega, fun _ => ⟨w.heap.size, 0, rfl, by omega, fun i hi => by
    obtain rfl : i = 0 := by omega
    rw [cell_of_row _ _ _ _ _ _ (heap_alloc_new w _)]
    rfl⟩⟩
theorem Own.alloc {w : World} {base n c : Nat} {e : TypeId} {A : Option Addr} {xs : List Nat} (h : Own w base e A n c xs) (o : Obj) : Own (w.alloc o) base e A n c xs := ⟨h.1.alloc o, h.2⟩
theorem Own.drew {w : World} {base n c : Nat} {e : TypeId} {A : Option Addr} {xs : List Nat} (h : Own w base e A n c xs) : Own w.drew base e A n c xs := ⟨h.1, h.2⟩
theorem Bytes.drew {w : World} {B n : Nat} {A : Option Addr} {xs : List Nat} (h : Bytes w B A n xs) : Bytes w.drew B A n xs := h
end

/-- A slice literal. -/
theorem Own.lit (w : World) (e : TypeId) (n : Nat) (xs : List Nat) (cs : Array Value) (hc : cs = (u8s xs).toArray) (hl : xs.length = n) (hn : n ≤ 140737488355328) (hx : AllB xs) : Own (w.alloc (.cells cs e)) w.heap.size e (some ⟨w.heap.size, 0, none⟩) n n xs := by
  subst hc
  have h := World.ownsRow_lit (w := w) (base := w.heap.size) (e := e) (size := 1) (u8s xs).toArray n (Nat.le_refl _) (by unfold maxLen; omega) (by simp [u8s, hl])
  exact ⟨by simpa using h, hx⟩
theorem u8s_set (xs : List Nat) (i v : Nat) : (u8s xs).set i (.int .u8 (v : Int)) = u8s (xs.set i v) := by simp [u8s, List.map_set]
theorem AllB.set {xs : List Nat} (h : AllB xs) (i v : Nat) (hv : v < 256) : AllB (xs.set i v) := fun x hx => by
  rcases List.mem_or_eq_of_mem_set hx with h1 | h1
  · exact h x h1
  · rw [h1]; exact hv
/-- A store into new memory. -/
theorem Own.stored {w : World} {base e n c g i v : Nat} {xs : List Nat} (h : Own w base e (some ⟨g, 0, none⟩) n c xs) (hv : v < 256) : Own (w.setCell ⟨g, i, none⟩ (.int .u8 (v : Int))) base e (some ⟨g, 0, none⟩) n c (xs.set i v) :=
  ⟨by rw [← u8s_set]; exact (h.1.stored i _).1, h.2.set i v hv⟩
theorem Own.cell {w : World} {base e n c g i : Nat} {xs : List Nat} (h : Own w base e (some ⟨g, 0, none⟩) n c xs) (hi : i < n) : w.cell? ⟨g, i, none⟩ = some (.int .u8 ((xs.getD i 0 : Nat) : Int)) := by
  have hl : i < xs.length := by rw [h.length]; exact hi
  rw [h.1.cellAt i (by omega), u8s_get]
  simp [List.getD, hl]
theorem Bytes.cut {w : World} {B n m : Nat} {A : Option Addr} {xs : List Nat} (h : Bytes w B A n xs) (hm : m ≤ n) : Bytes w B A m (xs.take m) := by
  refine ⟨by rw [List.length_take, h.1]; omega, h.2.1.take m, fun hp => ?_⟩
  obtain ⟨b, off, e, hb, hc⟩ := h.2.2 (by omega)
  refine ⟨b, off, e, hb, fun i hi => ?_⟩
  rw [hc i (by omega)]
  have hl : i < xs.length := by rw [h.1]; omega
  simp [List.getD, hl, hi]
theorem Bytes.alloc {w : World} {B n : Nat} {A : Option Addr} {xs : List Nat} (h : Bytes w B A n xs) (hB : B ≤ w.heap.size) (o : Obj) : Bytes (w.alloc o) B A n xs := h.below (Below.alloc (Below.refl _ _) hB o)
/-- A slice literal, its place said. -/
theorem Bytes.lit {w : World} {h : Nat} (hh : w.heap.size = h) (t : TypeId) (n : Nat) (xs : List Nat) (cs : Array Value) (hc : cs = (u8s xs).toArray) (hl : xs.length = n) (hn : n ≤ 140737488355328) (hx : AllB xs) : Bytes (w.alloc (.cells cs t)) (h + 1) (some ⟨h, 0, none⟩) n xs := by
  have hb := (Own.lit w t n xs cs hc hl hn hx).bytes
  rw [hh] at hb
  exact hb.mono (by simp [hh])
instance (xs : List Nat) : Decidable (AllB xs) := inferInstanceAs (Decidable (∀ x ∈ xs, x < 256))
end Go.Proofs.Ytgogafhpchfinaa
/- Arguments opened: slices of bytes, slices of slices of bytes. -/
namespace Go.Proofs.Ytgogafhpchfinaa
open Go.RowKit Go.ChangeShapes Go.WideShapes Go.Deep

/-- A slice of bytes as a value, and what it holds. -/
structure RowV where
  A : Option Addr
  n : Nat
  c : Nat
  xs : List Nat
def RowV.val (r : RowV) : Value := .slice r.A r.n r.c
/-- A slice of n slices of bytes at A, below block B. -/
def RowsAt (w : World) (B : Nat) (A : Option Addr) (n : Nat) (rs : List RowV) : Prop :=
  rs.length = n ∧ (∀ r ∈ rs, Bytes w B r.A r.n r.xs ∧ r.n ≤ 140737488351232 ∧ r.n ≤ r.c) ∧ (0 < n → ∃ b off, A = some ⟨b, off, none⟩ ∧ b < B ∧ ∀ i r, rs[i]? = some r → w.cell? ⟨b, off + i, none⟩ = some (.slice r.A r.n r.c))
theorem RowsAt.below {w w' : World} {B n : Nat} {A : Option Addr} {rs : List RowV} (h : RowsAt w B A n rs) (k : Below B w w') : RowsAt w' B A n rs :=
  ⟨h.1, fun r hr => ⟨(h.2.1 r hr).1.below k, (h.2.1 r hr).2⟩, fun hn => by
    obtain ⟨b, off, e, hb, hc⟩ := h.2.2 hn
    exact ⟨b, off, e, hb, fun i r hi => (k.cell (p := ⟨b, off + i, none⟩) hb).trans (hc i r hi)⟩⟩
theorem RowsAt.keep {w w' : World} {B n : Nat} {A : Option Addr} {rs : List RowV} (h : RowsAt w B A n rs) (hB : B ≤ w.heap.size) (k : Keep w w') : RowsAt w' B A n rs := h.below (Below.mono k hB)
theorem RowsAt.alloc {w : World} {B n : Nat} {A : Option Addr} {rs : List RowV} (h : RowsAt w B A n rs) (hB : B ≤ w.heap.size) (o : Obj) : RowsAt (w.alloc o) B A n rs := h.below (Below.alloc (Below.refl _ _) hB o)
/-- A literal of slices, its place said. -/
theorem RowsAt.lit {w : World} {h : Nat} (hh : w.heap.size = h) (t : TypeId) (n : Nat) (rs : List RowV) (cs : Array Value) (hc : cs = (rs.map RowV.val).toArray) (hl : rs.length = n) (hr : ∀ r ∈ rs, Bytes w h r.A r.n r.xs ∧ r.n ≤ 140737488351232 ∧ r.n ≤ r.c) :
    RowsAt (w.alloc (.cells cs t)) (h + 1) (some ⟨h, 0, none⟩) n rs := by
  subst hh
  refine ⟨hl, fun r h1 => ⟨((hr r h1).1.alloc (Nat.le_refl _) _).mono (by omega), (hr r h1).2⟩, fun _ => ⟨_, 0, rfl, by omega, fun i r hi => ?_⟩⟩
  rw [cell_of_row _ _ _ _ _ _ (heap_alloc_new w _), hc, Nat.zero_add]
  simp [hi, RowV.val]

section
variable {H : Type} {enc : TypeId × Value → H} {P : Program} {W : World}

end
end Go.Proofs.Ytgogafhpchfinaa
/- Slices of slices of bytes in new memory: appended to, as rows. -/
namespace Go.Proofs.Ytgogafhpchfinaa
open Go.RowKit

/-- New memory: a slice of slices in a block from base on. -/
def OwnRows (w : World) (base : Nat) (e : TypeId) (A : Option Addr) (n c : Nat) (rs : List RowV) : Prop :=
  w.ownsRow base e 1 (.slice A n c) n (rs.map RowV.val)
namespace OwnRows
variable {w w' : World} {base n c : Nat} {e : TypeId} {A : Option Addr} {rs : List RowV}
theorem length (h : OwnRows w base e A n c rs) : rs.length = n := by have := h.1; simpa using this
theorem none_ (w : World) (base : Nat) (e : TypeId) : OwnRows w base e none 0 0 [] := World.ownsRow_nil w base e 1
theorem keep (h : OwnRows w base e A n c rs) (k : Keep w w') : OwnRows w' base e A n c rs :=
  h.kept (row := none) ⟨k.os, k.tape, k.output, k.size, fun i hi _ => k.block i hi⟩ (by
    cases hb : (Value.slice A n c).ownBlock with
    | none => exact Or.inl rfl
    | some g => exact Or.inr (by simp))
theorem alloc (h : OwnRows w base e A n c rs) (o : Obj) : OwnRows (w.alloc o) base e A n c rs := World.ownsRow.alloc h o
theorem drew (h : OwnRows w base e A n c rs) : OwnRows w.drew base e A n c rs := h
/-- Where it lies. -/
theorem block (h : OwnRows w base e A n c rs) (hn : 0 < n) : ∃ g, A = some ⟨g, 0, none⟩ ∧ base ≤ g ∧ g < w.heap.size := by
  rcases h.2 with ⟨hv, h0⟩ | ⟨g, cap, cur, hv, hg, hh, _⟩
  · omega
  · injection hv with h1 h2 h3
    exact ⟨g, h1, hg, (Array.getElem?_eq_some_iff.1 hh).1⟩
end OwnRows
section
variable {P : Program}
end
end Go.Proofs.Ytgogafhpchfinaa
/- Objects with footprints: what turns within a set of blocks; rows that lie in a set of blocks. -/
namespace Go.Proofs.Ytgogafhpchfinaa
open Go.RowKit
/-- Nothing outside of F has turned; new blocks may lie behind. -/
structure Turned (F : Nat → Prop) (w w' : World) : Prop where
  os : w'.os = w.os
  tape : w'.tape = w.tape
  output : w'.output = w.output
  size : w.heap.size ≤ w'.heap.size
  block : ∀ k, k < w.heap.size → ¬ F k → w'.heap[k]? = w.heap[k]?
namespace Turned
variable {F F' : Nat → Prop} {W w w' a b c : World}
theorem refl (F : Nat → Prop) (w : World) : Turned F w w := ⟨rfl, rfl, rfl, Nat.le_refl _, fun _ _ _ => rfl⟩
theorem of_keep (k : Keep w w') : Turned F w w' := ⟨k.os, k.tape, k.output, k.size, fun i hi _ => k.block i hi⟩
theorem trans (h : Turned F a b) (k : Turned F' b c) (hF : ∀ i, F' i → F i ∨ a.heap.size ≤ i) : Turned F a c :=
  ⟨k.os.trans h.os, k.tape.trans h.tape, k.output.trans h.output, Nat.le_trans h.size k.size, fun i hi hn => (k.block i (Nat.lt_of_lt_of_le hi h.size) fun e => by
    rcases hF i e with e | e
    · exact hn e
    · omega).trans (h.block i hi hn)⟩
theorem mono (h : Turned F w w') (hF : ∀ i, i < w.heap.size → F i → F' i) : Turned F' w w' := ⟨h.os, h.tape, h.output, h.size, fun i hi hn => h.block i hi fun e => hn (hF i hi e)⟩
theorem keep (k : Turned F w w') (h : Keep W w) (hF : ∀ i, F i → W.heap.size ≤ i) : Keep W w' :=
  Below.trans h ⟨k.os, k.tape, k.output, k.size, fun i hi => k.block i (Nat.lt_of_lt_of_le hi h.size) fun e => by have := hF i e; omega⟩
theorem cell (k : Turned F w w') {p : Addr} {v : Value} (h : w.cell? p = some v) (hn : ¬ F p.block) : w'.cell? p = some v :=
  (World.cell?_of_block (k.block p.block (World.block_lt_of_cell? w p h) hn)).trans h
theorem set (w : World) (p : Addr) (v : Value) (h : F p.block) : Turned F w (w.setCell p v) :=
  ⟨rfl, rfl, rfl, by simp [World.setCell], fun i _ hi => Below.heap_setCell w p v i (fun e => hi (by rw [e]; exact h))⟩
/-- Of a block's row. -/
theorem owns {base n size : Nat} {e : TypeId} {v : Value} {xs : List Value} (h : w.ownsRow base e size v n xs) (k : Turned F w w') (hn : ∀ b, v.ownBlock = some b → ¬ F b) : w'.ownsRow base e size v n xs := by
  refine ⟨h.1, ?_⟩
  rcases h.2 with hv | ⟨g, cap, cur, hv, hb, hg, rest⟩
  · exact Or.inl hv
  · exact Or.inr ⟨g, cap, cur, hv, hb, (k.block g (Array.getElem?_eq_some_iff.1 hg).1 (hn g (by rw [hv]; rfl))).trans hg, rest⟩
end Turned
theorem Own.turned {F : Nat → Prop} {w w' : World} {base n c : Nat} {e : TypeId} {A : Option Addr} {xs : List Nat} (h : Own w base e A n c xs) (k : Turned F w w') (hn : ∀ b, (Value.slice A n c).ownBlock = some b → ¬ F b) : Own w' base e A n c xs :=
  ⟨k.owns h.1 hn, h.2⟩
theorem OwnRows.turned {F : Nat → Prop} {w w' : World} {base n c : Nat} {e : TypeId} {A : Option Addr} {rs : List RowV} (h : OwnRows w base e A n c rs) (k : Turned F w w') (hn : ∀ b, (Value.slice A n c).ownBlock = some b → ¬ F b) : OwnRows w' base e A n c rs :=
  k.owns h hn
/-- A row of bytes in blocks of F. -/
def LiesIn (w : World) (F : Nat → Prop) (r : RowV) : Prop :=
  r.xs.length = r.n ∧ AllB r.xs ∧ r.n ≤ r.c ∧ (0 < r.n → ∃ b off, r.A = some ⟨b, off, none⟩ ∧ F b ∧ ∀ i, i < r.n → w.cell? ⟨b, off + i, none⟩ = some (.int .u8 ((r.xs.getD i 0 : Nat) : Int)))
namespace LiesIn
variable {F F' G : Nat → Prop} {w w' : World} {r : RowV}
theorem bytes {B : Nat} (h : LiesIn w F r) (hB : ∀ b, F b → b < B) : Bytes w B r.A r.n r.xs := ⟨h.1, h.2.1, fun hp => by
  obtain ⟨b, off, e, hb, hc⟩ := h.2.2.2 hp
  exact ⟨b, off, e, hB b hb, hc⟩⟩
theorem turned (h : LiesIn w F r) (k : Turned G w w') (hd : ∀ b, F b → ¬ G b) : LiesIn w' F r := ⟨h.1, h.2.1, h.2.2.1, fun hp => by
  obtain ⟨b, off, e, hb, hc⟩ := h.2.2.2 hp
  exact ⟨b, off, e, hb, fun i hi => k.cell (hc i hi) (hd b hb)⟩⟩
theorem mono (h : LiesIn w F r) (hF : ∀ b, F b → F' b) : LiesIn w F' r := ⟨h.1, h.2.1, h.2.2.1, fun hp => by
  obtain ⟨b, off, e, hb, hc⟩ := h.2.2.2 hp
  exact ⟨b, off, e, hF b hb, hc⟩⟩
end LiesIn
/-- A slice of rows in blocks of F, its own block among them. -/
def RowsIn (w : World) (F : Nat → Prop) (A : Option Addr) (n : Nat) (rs : List RowV) : Prop :=
  rs.length = n ∧ (∀ r ∈ rs, LiesIn w F r) ∧ (0 < n → ∃ b off, A = some ⟨b, off, none⟩ ∧ F b ∧ ∀ i r, rs[i]? = some r → w.cell? ⟨b, off + i, none⟩ = some r.val)
namespace RowsIn
variable {F F' G : Nat → Prop} {w w' : World} {A : Option Addr} {n : Nat} {rs : List RowV}
theorem turned (h : RowsIn w F A n rs) (k : Turned G w w') (hd : ∀ b, F b → ¬ G b) : RowsIn w' F A n rs := ⟨h.1, fun r hr => (h.2.1 r hr).turned k hd, fun hp => by
  obtain ⟨b, off, e, hb, hc⟩ := h.2.2 hp
  exact ⟨b, off, e, hb, fun i r hi => k.cell (hc i r hi) (hd b hb)⟩⟩
theorem mono (h : RowsIn w F A n rs) (hF : ∀ b, F b → F' b) : RowsIn w F' A n rs := ⟨h.1, fun r hr => (h.2.1 r hr).mono hF, fun hp => by
  obtain ⟨b, off, e, hb, hc⟩ := h.2.2 hp
  exact ⟨b, off, e, hF b hb, hc⟩⟩
end RowsIn
/-- The address of a slice cut at its head. -/
def dropA (A : Option Addr) (c s : Nat) : Option Addr := if c = s then A else A.map (·.add s)
theorem dropA_some (b off c s : Nat) (h : s < c) : dropA (some ⟨b, off, none⟩) c s = some ⟨b, off + s, none⟩ := by
  rw [dropA, if_neg (by omega)]
  simp only [Option.map_some, Addr.add]
  split <;> simp_all
theorem RowsIn.drop {F : Nat → Prop} {w : World} {A : Option Addr} {n c s : Nat} {rs : List RowV} (h : RowsIn w F A n rs) (hc : n ≤ c) : RowsIn w F (dropA A c s) (n - s) (rs.drop s) := by
  refine ⟨by rw [List.length_drop, h.1], fun r hr => h.2.1 r (List.mem_of_mem_drop hr), fun hp => ?_⟩
  obtain ⟨b, off, rfl, hb, hcell⟩ := h.2.2 (by omega)
  refine ⟨b, off + s, dropA_some b off c s (by omega), hb, fun i r hi => ?_⟩
  rw [List.getElem?_drop] at hi
  rw [Nat.add_assoc]; exact hcell (s + i) r hi
end Go.Proofs.Ytgogafhpchfinaa
/- What a call hands back that lays bytes in new memory. -/
namespace Go.Proofs.Ytgogafhpchfinaa
open Go.RowKit
/-- .. and an error. -/
def NewPair (w : World) (xs : List Nat) (er : Int) (r : Ending) (w' : World) : Prop :=
  ∃ A n c, r = .returned (.tuple #[.slice A n c, .int .i64 er]) ∧ Own w' w.heap.size 5 A n c xs ∧ Keep w w'
theorem NewPair.nil (w : World) (er : Int) : NewPair w [] er (.returned (.tuple #[.slice none 0 0, .int .i64 er])) w := ⟨none, 0, 0, rfl, Own.none_ _ _ _, Keep.refl _⟩
end Go.Proofs.Ytgogafhpchfinaa
/- Slices of numbers of 64 bits in memory: what they hold, of one's own, as arguments, appended to, written out. -/
namespace Go.Proofs.Ytgogafhpchfinaa
open Go.RowKit Go.ChangeShapes Go.WideShapes Go.Deep
set_option linter.unusedVariables false
set_option linter.unusedSimpArgs false
/-- A number of 64 bits. -/
def u64 (x : Nat) : Value := Value.int .u64 (x : Int)
/-- A slice of n numbers of 64 bits at A, in blocks of F: they are l. -/
def UsIn (w : World) (F : Nat → Prop) (A : Option Addr) (n : Nat) (l : List Nat) : Prop :=
  l.length = n ∧ (0 < n → ∃ b off, A = some ⟨b, off, none⟩ ∧ F b ∧ b < w.heap.size ∧ ∀ (i x : Nat), l[i]? = some x → w.cell? ⟨b, off + i, none⟩ = some (.int .u64 (x : Int)))
namespace UsIn
variable {w w' : World} {F G : Nat → Prop} {A : Option Addr} {n : Nat} {l : List Nat}
theorem turned (h : UsIn w F A n l) (k : Turned G w w') (hd : ∀ b, F b → ¬ G b) : UsIn w' F A n l := ⟨h.1, fun hn => by
  obtain ⟨b, off, e, hb, hl, hc⟩ := h.2 hn
  exact ⟨b, off, e, hb, Nat.lt_of_lt_of_le hl k.size, fun i x hi => k.cell (hc i x hi) (hd b hb)⟩⟩
theorem keep (h : UsIn w F A n l) (k : Keep w w') : UsIn w' F A n l := h.turned (Turned.of_keep (F := fun _ => False) k) fun _ _ e => e
theorem mono (h : UsIn w F A n l) (hF : ∀ b, F b → b < w.heap.size → G b) : UsIn w G A n l := ⟨h.1, fun hn => by
  obtain ⟨b, off, e, hb, hl, hc⟩ := h.2 hn
  exact ⟨b, off, e, hF b hb hl, hl, hc⟩⟩
theorem any (h : UsIn w F A n l) : UsIn w (fun _ => True) A n l := h.mono fun _ _ _ => trivial
theorem nil (w : World) (F : Nat → Prop) (A : Option Addr) : UsIn w F A 0 [] := ⟨rfl, fun h => absurd h (by omega)⟩
end UsIn
/-- Numbers of 64 bits of one's own. -/
def OwnU (w : World) (base : Nat) (A : Option Addr) (n c : Nat) (l : List Nat) : Prop := w.ownsRow base 22 1 (.slice A n c) n (l.map u64)
namespace OwnU
variable {w w' : World} {base n c : Nat} {A : Option Addr} {l : List Nat}
theorem none_ (w : World) (base : Nat) : OwnU w base none 0 0 [] := World.ownsRow_nil w base 22 1
theorem length (h : OwnU w base A n c l) : l.length = n := by have := h.1; simpa using this
theorem keep (h : OwnU w base A n c l) (k : Keep w w') : OwnU w' base A n c l :=
  World.ownsRow.kept h (row := none) ⟨k.os, k.tape, k.output, k.size, fun i hi _ => k.block i hi⟩ (by
    cases hb : (Value.slice A n c).ownBlock with
    | none => exact Or.inl rfl
    | some g => exact Or.inr (by simp))
theorem alloc (h : OwnU w base A n c l) (o : Obj) : OwnU (w.alloc o) base A n c l := World.ownsRow.alloc h o
end OwnU
section
variable {P : Program}
end
section
variable {H : Type} {enc : TypeId × Value → H} {P : Program} {W : World}
/-- An argument that is a slice of numbers of 64 bits. -/
theorem arg_us {t e : TypeId} (ht : P.underlying t = some (.slice e)) (he : P.underlying e = some (.int .u64)) (hc : P.cellsOf e = 1) (hb : 1 ≤ P.bytesOf e)
    {ts : List TypeId} {ds : List (DataW H)} (hsz : (DataW.weightsEach P ts ds).all (· ≤ reachBytes) = true) {j : Nat} (hj : ts[j]? = some t) {v : Value} {d : DataW H} {p : List MemPlace} (hd : ds[j]? = some d)
    {base : Nat} (hv : Value.okWide P W .any base t v) (h : DataW.Trod enc P W 0 (fun _ => true) true t v d p) :
    ∃ (A : Option Addr) (n c : Nat) (l : List Nat), v = .slice A n c ∧ UsIn W (fun _ => True) A n l ∧ (∀ z ∈ l, z < 18446744073709551616) ∧ n ≤ 140737488351232 := by
  obtain ⟨A, n, c, rfl⟩ := okWide_slice ht hv
  obtain ⟨fuel, hf⟩ := h
  have hs : ∀ k ∈ d.weights P t, k ≤ reachBytes := fun k hk => by
    have := List.all_eq_true.1 hsz k (DataW.weights_mem_each hj hd k hk)
    simpa using this
  rcases open_ints ht he hc (by simpa [Value.cells] using hf) with ⟨hcs, _⟩ | ⟨a, len, cap, zs, hcs, _, hl, hm, hz, hx, hcell, hwz⟩
  · simp at hcs
    obtain ⟨rfl, rfl, rfl⟩ := hcs
    exact ⟨none, 0, 0, [], rfl, UsIn.nil _ _ _, fun z hz => by simp at hz, by omega⟩
  · simp at hcs
    obtain ⟨rfl, rfl, rfl⟩ := hcs
    have hz' : zs.length = c := by simpa using hz
    simp only [Prod.mk.injEq] at hx
    obtain ⟨hde, _⟩ := hx
    have hr : reachBytes = 140737488351232 := by decide
    have hsz2 : c ≤ reachBytes := by
      have h1 := hs (((lits .u64 (zs.take n) : List (DataW H)).length + (lits .u64 (zs.drop n) : List (DataW H)).length) * P.bytesOf e) (by rw [hde]; simp [DataW.weights, ht])
      simp only [lits, List.length_map, List.length_take, List.length_drop] at h1
      have h2 : c * 1 ≤ (min n zs.length + (zs.length - n)) * P.bytesOf e := Nat.mul_le_mul (by omega) hb
      omega
    refine ⟨some a, n, c, (zs.take n).map Int.toNat, rfl, ⟨by rw [List.length_map, List.length_take]; omega, fun hn => ?_⟩, fun z hz2 => ?_, by omega⟩
    · obtain ⟨b, off, spot⟩ := a
      have h0 := hcell 0 (by omega)
      have hspot : spot = none := by simpa [Addr.add] using World.cell?_spot h0
      subst hspot
      refine ⟨b, off, rfl, trivial, World.block_lt_of_cell? W _ (show W.cell? ⟨b, off, none⟩ = _ by simpa [Addr.add] using h0), fun i x hi => ?_⟩
      rw [List.getElem?_map, List.getElem?_take] at hi
      split at hi
      · rename_i hin
        have h1 := hcell i (by omega)
        have ha : (⟨b, off, none⟩ : Addr).add i = ⟨b, off + i, none⟩ := by unfold Addr.add; split <;> simp_all
        rw [ha] at h1
        rw [h1, List.getD_eq_getElem?_getD]
        have hil : i < zs.length := by omega
        rw [List.getElem?_eq_getElem hil] at hi ⊢
        have hw := bounds_u64 (hwz _ (List.getElem_mem hil))
        have hi : (zs[i]).toNat = x := by simpa using hi
        subst hi
        show some (Value.int .u64 zs[i]) = _
        rw [Int.toNat_of_nonneg hw.1]
      · cases hi
    · obtain ⟨y, hy, rfl⟩ := List.mem_map.1 hz2
      have hw := bounds_u64 (hwz y (List.mem_of_mem_take hy))
      omega
end
end Go.Proofs.Ytgogafhpchfinaa
/- Whole numbers below 2^53 as numbers of 64 bits with a point: exact sums, order, back again. -/
namespace Go.Proofs.Ytgogafhpchfinaa
set_option linter.unusedVariables false
open Ieee
/-- The word of a whole number. -/
def fl (n : Nat) : Nat := double.write (.number false n 0)
theorem dbl_frac : (double.fractionBits : Int) = 52 := rfl
theorem dbl_least : double.leastPlace = -1074 := by decide +kernel
theorem dbl_inf : double.infRung = 2047 * 2 ^ 52 := by decide +kernel
theorem dbl_bin : double.binade = 2 ^ 52 := by decide +kernel
theorem dbl_sign : double.signWeight = 9223372036854775808 := by decide +kernel
theorem log_mul (n k : Nat) (hn : n ≠ 0) : (n * 2 ^ k).log2 = n.log2 + k := by
  have h0 : n * 2 ^ k ≠ 0 := Nat.mul_ne_zero hn (by have := Nat.two_pow_pos k; omega)
  rw [Nat.log2_eq_iff h0]
  have h1 := Nat.log2_self_le hn
  have h2 := Nat.lt_log2_self (n := n)
  refine ⟨?_, ?_⟩
  · rw [Nat.pow_add]; exact Nat.mul_le_mul_right _ h1
  · rw [show n.log2 + k + 1 = (n.log2 + 1) + k by omega, Nat.pow_add]
    exact Nat.mul_lt_mul_of_pos_right h2 (Nat.two_pow_pos k)
theorem log_le {n : Nat} (h : n < 2 ^ 53) : n.log2 ≤ 52 := by
  by_cases h0 : n = 0
  · subst h0; decide
  · have h1 := Nat.log2_self_le h0
    rcases Nat.lt_or_ge 52 n.log2 with h2 | h2
    · have h3 := Nat.pow_le_pow_right (n := 2) (by decide) h2
      omega
    · exact h2
theorem cut_zero (n : Nat) : Toward.even.cut false n 0 = n := by
  unfold Toward.cut
  simp [Nat.mod_one]
theorem cut_exact (n d : Nat) (hn : n ≠ 0) : Toward.even.cut false (n * 2 ^ d) d = n := by
  have hl := log_mul n d hn
  have hm : min d ((n * 2 ^ d).log2 + 2) = d := by omega
  have hp := Nat.two_pow_pos d
  have hq : n * 2 ^ d / 2 ^ d = n := Nat.mul_div_cancel _ hp
  have hr : n * 2 ^ d % 2 ^ d = 0 := Nat.mul_mod_left _ _
  unfold Toward.cut
  rw [hm, Nat.one_shiftLeft]
  simp only [hq, hr]
  have h1 : decide (2 ^ d < 2 * 0) = false := by simp
  have h2 : (2 ^ d == 2 * 0) = false := by rw [beq_eq_false_iff_ne]; omega
  simp [h2]
/-- Whatever its last places are. -/
theorem write_rep {n k : Nat} (hn : n ≠ 0) (h : n < 2 ^ 53) : double.write (.number false (n * 2 ^ k) (-(k : Int))) = (n.log2 + 1022) * 2 ^ 52 + n * 2 ^ (52 - n.log2) := by
  have hl := log_le h
  have hlm := log_mul n k hn
  have h0 : n * 2 ^ k ≠ 0 := Nat.mul_ne_zero hn (by have := Nat.two_pow_pos k; omega)
  have hlast : max (-(k : Int) + ((n.log2 + k : Nat) : Int) - (double.fractionBits : Int)) double.leastPlace = (n.log2 : Int) - 52 := by
    rw [dbl_frac, dbl_least]; omega
  have hkept : Toward.even.cut false ((n * 2 ^ k) <<< (-(k : Int) - ((n.log2 : Int) - 52)).toNat) (((n.log2 : Int) - 52) - -(k : Int)).toNat = n * 2 ^ (52 - n.log2) := by
    rcases Nat.lt_or_ge 52 (n.log2 + k) with h1 | h1
    · have e1 : (-(k : Int) - ((n.log2 : Int) - 52)).toNat = 0 := by omega
      have e2 : (((n.log2 : Int) - 52) - -(k : Int)).toNat = n.log2 + k - 52 := by omega
      have e3 : n * 2 ^ k = n * 2 ^ (52 - n.log2) * 2 ^ (n.log2 + k - 52) := by
        rw [Nat.mul_assoc, ← Nat.pow_add]; congr 2; omega
      rw [e1, e2, Nat.shiftLeft_zero, e3]
      exact cut_exact _ _ (Nat.mul_ne_zero hn (by have := Nat.two_pow_pos (52 - n.log2); omega))
    · have e1 : (-(k : Int) - ((n.log2 : Int) - 52)).toNat = 52 - n.log2 - k := by omega
      have e2 : (((n.log2 : Int) - 52) - -(k : Int)).toNat = 0 := by omega
      rw [e1, e2, cut_zero, Nat.shiftLeft_eq, Nat.mul_assoc, ← Nat.pow_add]
      congr 2; omega
  have hbig : n * 2 ^ (52 - n.log2) < 2 ^ 53 := by
    have h2 := Nat.lt_log2_self (n := n)
    have h3 : n * 2 ^ (52 - n.log2) < 2 ^ (n.log2 + 1) * 2 ^ (52 - n.log2) := Nat.mul_lt_mul_of_pos_right h2 (Nat.two_pow_pos _)
    rw [← Nat.pow_add, show n.log2 + 1 + (52 - n.log2) = 53 by omega] at h3
    exact h3
  have hw : double.write (.number false (n * 2 ^ k) (-(k : Int))) = double.nearest false (n * 2 ^ k) (-(k : Int)) := rfl
  rw [hw]
  unfold Format.nearest
  rw [if_neg h0, hlm]
  simp only [hlast, hkept]
  have e3 : (((n.log2 : Int) - 52) - double.leastPlace).toNat = n.log2 + 1022 := by
    rw [dbl_least]; omega
  rw [e3, dbl_inf, dbl_bin]
  unfold Format.word
  simp only [Bool.false_eq_true, if_false]
  generalize n * 2 ^ (52 - n.log2) = K at hbig ⊢
  generalize n.log2 = l at hl ⊢
  clear hw hlast hkept h0 hlm e3
  exact Nat.min_eq_left (by omega)
theorem fl_zero : fl 0 = 0 := by decide +kernel
theorem fl_eq {n : Nat} (hn : n ≠ 0) (h : n < 2 ^ 53) : fl n = (n.log2 + 1022) * 2 ^ 52 + n * 2 ^ (52 - n.log2) := by
  have := write_rep (k := 0) hn h
  rw [Nat.pow_zero, Nat.mul_one] at this
  exact this
/-- Read again. -/
theorem read_fl {n : Nat} (h : n < 2 ^ 53) : ∃ k : Nat, double.read (fl n) = .number false (n * 2 ^ k) (-(k : Int)) := by
  by_cases hn : n = 0
  · subst hn
    obtain ⟨K, hK⟩ : ∃ K : Nat, 1074 = K := ⟨_, rfl⟩
    refine ⟨K, ?_⟩
    rw [Nat.zero_mul, ← hK]
    decide +kernel
  · have hl := log_le h
    refine ⟨52 - n.log2, ?_⟩
    rw [fl_eq hn h]
    have h1 := Nat.log2_self_le hn
    have h2 := Nat.lt_log2_self (n := n)
    have hlo : 2 ^ 52 ≤ n * 2 ^ (52 - n.log2) := by
      have h3 : 2 ^ n.log2 * 2 ^ (52 - n.log2) ≤ n * 2 ^ (52 - n.log2) := Nat.mul_le_mul_right _ h1
      rw [← Nat.pow_add, show n.log2 + (52 - n.log2) = 52 by omega] at h3
      exact h3
    have hhi : n * 2 ^ (52 - n.log2) < 2 ^ 53 := by
      have h3 : n * 2 ^ (52 - n.log2) < 2 ^ (n.log2 + 1) * 2 ^ (52 - n.log2) := Nat.mul_lt_mul_of_pos_right h2 (Nat.two_pow_pos _)
      rw [← Nat.pow_add, show n.log2 + 1 + (52 - n.log2) = 53 by omega] at h3
      exact h3
    obtain ⟨K, hK⟩ : ∃ v, n * 2 ^ (52 - n.log2) = v := ⟨_, rfl⟩
    obtain ⟨l, hll⟩ : ∃ v, n.log2 = v := ⟨_, rfl⟩
    rw [hK] at hlo hhi ⊢
    rw [hll] at hl ⊢
    have e1 := dbl_sign
    have e2 : double.binade = 4503599627370496 := by decide +kernel
    have e3 : double.infRung = 9218868437227405312 := by decide +kernel
    have e4 := dbl_least
    have p1 : (2 : Nat) ^ 52 = 4503599627370496 := by decide
    have p2 : (2 : Nat) ^ 53 = 9007199254740992 := by decide
    rw [p1] at hlo ⊢
    rw [p2] at hhi
    unfold Format.read
    rw [e1, e2, e3, e4]
    have q1 : ((l + 1022) * 4503599627370496 + K) / 9223372036854775808 % 2 = 0 := by omega
    have q2 : ((l + 1022) * 4503599627370496 + K) % 9223372036854775808 = (l + 1022) * 4503599627370496 + K := by omega
    have q3 : ((l + 1022) * 4503599627370496 + K) / 4503599627370496 = l + 1023 := by omega
    have q4 : ((l + 1022) * 4503599627370496 + K) % 4503599627370496 = K - 4503599627370496 := by omega
    simp only [q1, q2, q3, q4]
    rw [if_neg (by omega), if_pos (by omega)]
    have q5 : 4503599627370496 + (K - 4503599627370496) = K := by omega
    have q6 : (-1074 : Int) + ((l + 1023 - 1 : Nat) : Int) = -((52 - l : Nat) : Int) := by omega
    rw [q5, q6]
    rfl
theorem cut_zero_exact (n k : Nat) : Toward.zero.cut false (n * 2 ^ k) k = n := by
  by_cases hn : n = 0
  · subst hn
    unfold Toward.cut
    simp
  · have hl := log_mul n k hn
    have hm : min k ((n * 2 ^ k).log2 + 2) = k := by omega
    have hq : n * 2 ^ k / 2 ^ k = n := Nat.mul_div_cancel _ (Nat.two_pow_pos k)
    unfold Toward.cut
    rw [hm, Nat.one_shiftLeft]
    simp only [hq]
    rfl
/-- Back to a whole number. -/
theorem toInt_fl {n : Nat} (h : n < 2 ^ 53) : (double.read (fl n)).toInt .zero = some (n : Int) := by
  obtain ⟨k, hk⟩ := read_fl h
  rw [hk]
  have e1 : (-(k : Int)).toNat = 0 := by omega
  have e2 : (-(-(k : Int))).toNat = k := by omega
  have e3 : (Datum.number false (n * 2 ^ k) (-(k : Int))).integral .zero = .number false n 0 := by
    show Datum.number false (Toward.zero.cut false ((n * 2 ^ k) <<< (-(k : Int)).toNat) (-(-(k : Int))).toNat) 0 = _
    rw [e1, e2, Nat.shiftLeft_zero, cut_zero_exact]
  unfold Datum.toInt
  rw [e3]
  show some (signed false n 0) = _
  unfold signed
  rw [if_neg (by decide), Nat.shiftLeft_zero]
/-- In the model's words. -/
theorem flOfInt (n : Nat) : floatOfInt .f64 (n : Int) = fl n := by
  show FloatKind.f64.nearest (n : Int) = _
  rfl
theorem fl_toU64 {n : Nat} (h : n < 2 ^ 53) : floatToIntVal .f64 (fl n) .u64 = some (n : Int) := by
  unfold floatToIntVal
  have e : (FloatKind.f64.decode (fl n)).toInt .zero = some (n : Int) := toInt_fl h
  rw [e]
  have p2 : (2 : Nat) ^ 53 = 9007199254740992 := by decide
  rw [p2] at h
  have h1 : IntKind.u64.min ≤ (n : Int) ∧ (n : Int) ≤ IntKind.u64.max := by
    have e1 : IntKind.u64.min = 0 := by decide
    have e2 : IntKind.u64.max = 18446744073709551615 := by decide
    rw [e1, e2]; omega
  exact if_pos h1
end Go.Proofs.Ytgogafhpchfinaa
/- The landed credit: how both accounts lie, and their small functions. -/
namespace Go.Proofs.Ytgogafhpchfinaa
open Go.RowKit
set_option linter.unusedVariables false
set_option linter.unusedSimpArgs false
/-- A sender's account in block g. -/
structure SenR (w : World) (g own peer gr us : Nat) : Prop where
  block : w.heap[g]? = some (.cells #[.int .u64 (own : Int), .int .u64 (peer : Int), .complex .f64 (fl gr) (fl us)] 77 (0, 0))
  low : 1 ≤ own
  high : own ≤ 1125899906842624
  hp : peer ≤ 1125899906842624
  hg : gr ≤ 1125899906842624
  hu : us ≤ 1125899906842624
/-- A receiver's. -/
structure RecR (w : World) (g pl peer gr sn : Nat) : Prop where
  block : w.heap[g]? = some (.cells #[.int .i64 (pl : Int), .int .u64 (peer : Int), .complex .f64 (fl gr) (fl sn)] 74 (0, 0))
  low : 1 ≤ pl
  high : pl ≤ 64
  hp : peer ≤ 1125899906842624
  hg : gr ≤ 1125899906842624
  hs : sn ≤ 1125899906842624
namespace SenR
variable {w w' : World} {g own peer gr us : Nat}
theorem lt (h : SenR w g own peer gr us) : g < w.heap.size := (Array.getElem?_eq_some_iff.1 h.block).1
theorem c0 (h : SenR w g own peer gr us) : w.cell? ⟨g, 0, none⟩ = some (.int .u64 (own : Int)) := by simp [World.cell?, h.block]
theorem c1 (h : SenR w g own peer gr us) : w.cell? ⟨g, 1, none⟩ = some (.int .u64 (peer : Int)) := by simp [World.cell?, h.block]
theorem c2 (h : SenR w g own peer gr us) : w.cell? ⟨g, 2, none⟩ = some (.complex .f64 (fl gr) (fl us)) := by simp [World.cell?, h.block]
theorem f1 (h : SenR w g own peer gr us) : w.frozen? ⟨g, 1, none⟩ = false := by simp [World.frozen?, h.block]
theorem f2 (h : SenR w g own peer gr us) : w.frozen? ⟨g, 2, none⟩ = false := by simp [World.frozen?, h.block]
theorem turned {G : Nat → Prop} (h : SenR w g own peer gr us) (t : Turned G w w') (hn : ¬ G g) : SenR w' g own peer gr us := ⟨(t.block g h.lt hn).trans h.block, h.low, h.high, h.hp, h.hg, h.hu⟩
theorem keep (h : SenR w g own peer gr us) (t : Keep w w') : SenR w' g own peer gr us := ⟨(t.block g h.lt).trans h.block, h.low, h.high, h.hp, h.hg, h.hu⟩
theorem peers (h : SenR w g own peer gr us) {p : Nat} (hp : p ≤ 1125899906842624) : SenR (w.setCell ⟨g, 1, none⟩ (.int .u64 (p : Int))) g own p gr us :=
  ⟨by simp [World.setCell, Array.getElem?_modify, h.block], h.low, h.high, hp, h.hg, h.hu⟩
theorem counts (h : SenR w g own peer gr us) {a b : Nat} (ha : a ≤ 1125899906842624) (hb : b ≤ 1125899906842624) : SenR (w.setCell ⟨g, 2, none⟩ (.complex .f64 (fl a) (fl b))) g own peer a b :=
  ⟨by simp [World.setCell, Array.getElem?_modify, h.block], h.low, h.high, h.hp, ha, hb⟩
end SenR
namespace RecR
variable {w w' : World} {g pl peer gr sn : Nat}
theorem lt (h : RecR w g pl peer gr sn) : g < w.heap.size := (Array.getElem?_eq_some_iff.1 h.block).1
theorem c0 (h : RecR w g pl peer gr sn) : w.cell? ⟨g, 0, none⟩ = some (.int .i64 (pl : Int)) := by simp [World.cell?, h.block]
theorem c1 (h : RecR w g pl peer gr sn) : w.cell? ⟨g, 1, none⟩ = some (.int .u64 (peer : Int)) := by simp [World.cell?, h.block]
theorem c2 (h : RecR w g pl peer gr sn) : w.cell? ⟨g, 2, none⟩ = some (.complex .f64 (fl gr) (fl sn)) := by simp [World.cell?, h.block]
theorem f1 (h : RecR w g pl peer gr sn) : w.frozen? ⟨g, 1, none⟩ = false := by simp [World.frozen?, h.block]
theorem f2 (h : RecR w g pl peer gr sn) : w.frozen? ⟨g, 2, none⟩ = false := by simp [World.frozen?, h.block]
theorem turned {G : Nat → Prop} (h : RecR w g pl peer gr sn) (t : Turned G w w') (hn : ¬ G g) : RecR w' g pl peer gr sn := ⟨(t.block g h.lt hn).trans h.block, h.low, h.high, h.hp, h.hg, h.hs⟩
theorem keep (h : RecR w g pl peer gr sn) (t : Keep w w') : RecR w' g pl peer gr sn := ⟨(t.block g h.lt).trans h.block, h.low, h.high, h.hp, h.hg, h.hs⟩
theorem peers (h : RecR w g pl peer gr sn) {p : Nat} (hp : p ≤ 1125899906842624) : RecR (w.setCell ⟨g, 1, none⟩ (.int .u64 (p : Int))) g pl p gr sn :=
  ⟨by simp [World.setCell, Array.getElem?_modify, h.block], h.low, h.high, hp, h.hg, h.hs⟩
theorem counts (h : RecR w g pl peer gr sn) {a b : Nat} (ha : a ≤ 1125899906842624) (hb : b ≤ 1125899906842624) : RecR (w.setCell ⟨g, 2, none⟩ (.complex .f64 (fl a) (fl b))) g pl peer a b :=
  ⟨by simp [World.setCell, Array.getElem?_modify, h.block], h.low, h.high, h.hp, ha, hb⟩
end RecR
section
variable {w : World}
/-- What a count is when it is read. -/
theorem conv_count (n : Nat) (hn : n ≤ 1125899906842624) (w : World) : (convert 83 22 (.float .f64 (fl n))).run Try.prog w = .ok (.int .u64 (n : Int)) w :=
  run_convert_float_int (P := Try.prog) (w := w) (src := 83) (dst := 22) (s := .f64) (k := .u64) (b := fl n) (n := n) (by rw [Try.underlying83]; rfl) Try.underlying22 (fl_toU64 (by omega))
theorem conv_float (n : Nat) (w : World) : (convert 22 83 (.int .u64 (n : Int))).run Try.prog w = .ok (.float .f64 (fl n)) w := by
  have := run_convert_int_float (P := Try.prog) (w := w) 22 83 .u64 .f64 (n : Int) (by rw [Try.underlying22]; rfl) Try.underlying83
  rw [flOfInt] at this
  exact this
theorem granted_any (a b : Nat) (ha : a ≤ 1125899906842624) (w : World) : Calls Try.prog 32 #[.complex .f64 (fl a) (fl b)] w fun e w' => e = .returned (.int .u64 (a : Int)) ∧ w' = w := by
  have h1 := conv_count a ha w
  go_enter Try.func32, Try.ntmps32
  go_wp2_with fail
  go_ret
  exact ⟨rfl, rfl⟩
theorem reached_any (a b : Nat) (hb : b ≤ 1125899906842624) (w : World) : Calls Try.prog 35 #[.complex .f64 (fl a) (fl b)] w fun e w' => e = .returned (.int .u64 (b : Int)) ∧ w' = w := by
  have h1 := conv_count b hb w
  go_enter Try.func35, Try.ntmps35
  go_wp2_with fail
  go_ret
  exact ⟨rfl, rfl⟩
theorem withGranted_any (a b n : Nat) (w : World) : Calls Try.prog 33 #[.complex .f64 (fl a) (fl b), .int .u64 (n : Int)] w fun e w' => e = .returned (.complex .f64 (fl n) (fl b)) ∧ w' = w := by
  have h1 := conv_float n w
  go_enter Try.func33, Try.ntmps33
  go_wp2_with fail
  go_ret
  exact ⟨rfl, rfl⟩
theorem withReached_any (a b n : Nat) (w : World) : Calls Try.prog 30 #[.complex .f64 (fl a) (fl b), .int .u64 (n : Int)] w fun e w' => e = .returned (.complex .f64 (fl a) (fl n)) ∧ w' = w := by
  have h1 := conv_float n w
  go_enter Try.func30, Try.ntmps30
  go_wp2_with fail
  go_ret
  exact ⟨rfl, rfl⟩
theorem life_any (n : Nat) (b : Bool) (hb : b = decide (1 ≤ n ∧ n ≤ 1125899906842624)) (w : World) : Calls Try.prog 28 #[.int .u64 (n : Int)] w fun e w' => e = .returned (.bool b) ∧ w' = w := by
  by_cases h1 : 1 ≤ n
  · have d1 : decide ((1 : Int) ≤ (n : Int)) = true := decide_eq_true (by omega)
    by_cases h2 : n ≤ 1125899906842624
    · have d2 : decide ((n : Int) ≤ 1125899906842624) = true := decide_eq_true (by omega)
      obtain rfl : b = true := by rw [hb]; exact decide_eq_true ⟨h1, h2⟩
      clear hb h1 h2
      go_enter Try.func28, Try.ntmps28
      go_wp2_with fail
      go_ret
      exact ⟨rfl, rfl⟩
    · have d2 : decide ((n : Int) ≤ 1125899906842624) = false := decide_eq_false (by omega)
      obtain rfl : b = false := by rw [hb]; exact decide_eq_false (fun h => h2 h.2)
      clear hb h1 h2
      go_enter Try.func28, Try.ntmps28
      go_wp2_with fail
      go_ret
      exact ⟨rfl, rfl⟩
  · have d1 : decide ((1 : Int) ≤ (n : Int)) = false := decide_eq_false (by omega)
    obtain rfl : b = false := by rw [hb]; exact decide_eq_false (fun h => h1 h.1)
    clear hb h1
    go_enter Try.func28, Try.ntmps28
    go_wp2_with fail
    go_ret
    exact ⟨rfl, rfl⟩
/-- The closure, over what was kept of lives. -/
theorem look_less (g i : Nat) (life peer b : Nat) (w : World) (hb : w.cell? ⟨b, 0, none⟩ = some (.pointer (some ⟨g, i, none⟩))) (hc : w.cell? ⟨g, i, none⟩ = some (.int .u64 (peer : Int))) (h : life < peer) :
    Calls Try.prog 36 #[.int .u64 (life : Int), .pointer (some ⟨b, 0, none⟩)] w fun e w' => e = .returned (.tuple #[.bool false, .int .i64 22]) ∧ w' = w := by
  have d1 : (life : Int) < (peer : Int) := by omega
  clear h
  go_enter Try.func36, Try.ntmps36
  go_wp2_with fail
  go_ret2
  exact ⟨rfl, rfl⟩
theorem look_more (g i : Nat) (life peer b : Nat) (l : Bool) (hl : l = decide (peer < life)) (w : World) (hb : w.cell? ⟨b, 0, none⟩ = some (.pointer (some ⟨g, i, none⟩))) (hc : w.cell? ⟨g, i, none⟩ = some (.int .u64 (peer : Int))) (hf : w.frozen? ⟨g, i, none⟩ = false) (h : peer ≤ life) :
    Calls Try.prog 36 #[.int .u64 (life : Int), .pointer (some ⟨b, 0, none⟩)] w fun e w' => e = .returned (.tuple #[.bool l, .int .i64 0]) ∧ w' = w.setCell ⟨g, i, none⟩ (.int .u64 (life : Int)) := by
  have d1 : ¬ (life : Int) < (peer : Int) := by omega
  have HL := Lib.hid hl
  clear h hl
  go_enter Try.func36, Try.ntmps36
  go_wp2_with fail
  go_ret2
  exact ⟨by rw [HL.out]; rfl, rfl⟩
theorem watch_any (p : Addr) (w : World) : Calls Try.prog 31 #[.pointer (some p)] w fun e w' => e = .returned (.func (.func 36) #[] #[.pointer (some ⟨w.heap.size, 0, none⟩)]) ∧ w'.cell? ⟨w.heap.size, 0, none⟩ = some (.pointer (some p)) ∧ Keep w w' := by
  go_enter Try.func31, Try.ntmps31
  go_wp2_with fail
  go_ret
  exact ⟨rfl, cell_of_one (heap_alloc_new _ _), (Keep.refl w).alloc _ _⟩
end
end Go.Proofs.Ytgogafhpchfinaa
/- The landed credit: the methods of both accounts, each in one contract. -/
namespace Go.Proofs.Ytgogafhpchfinaa
open Go.RowKit
set_option linter.unusedVariables false
set_option linter.unusedSimpArgs false
theorem run_most (ts : Array TypeId) (t : TypeId) (a b m : Nat) (h : max a b = m) (w : World) : (Builtin.max_ ts t #[.int .u64 (a : Int), .int .u64 (b : Int)]).run Try.prog w = .ok (.int .u64 (m : Int)) w := by
  rw [run_max_int2]; congr 2; split <;> omega
theorem run_least64 (ts : Array TypeId) (t : TypeId) (a m : Nat) (h : min a 1125899906842624 = m) (w : World) : (Builtin.min_ ts t #[.int .u64 (a : Int), .int .u64 1125899906842624]).run Try.prog w = .ok (.int .u64 (m : Int)) w := by
  rw [run_min_int2]; congr 2; split <;> omega
@[go_sem] theorem run_store_complex {P : Program} {w : World} {m : Mode} {a : Addr} (k : FloatKind) (x y : Nat) : (store a (.complex k x y) m).run P w = stored P w a (.complex k x y) m := run_store P w a _ m rfl
section
variable {g own peer gr us pl sn : Nat} {w : World}
theorem smade (h : SenR w g own peer gr us) : Calls Try.prog 29 #[.pointer (some ⟨g, 0, none⟩)] w fun e w' => e = .returned (.bool true) ∧ w' = w := by
  have c := h.c0
  have hl := h.low
  have d1 : decide ((0 : Int) < (own : Int)) = true := decide_eq_true (by omega)
  have d2 : decide (0 < own) = true := decide_eq_true (by omega)
  have H := Lib.hid h
  clear h hl
  go_enter Try.func29, Try.ntmps29
  go_wp2_with fail
  go_ret
  exact ⟨rfl, rfl⟩
theorem rmade (h : RecR w g pl peer gr sn) : Calls Try.prog 34 #[.pointer (some ⟨g, 0, none⟩)] w fun e w' => e = .returned (.bool true) ∧ w' = w := by
  have c := h.c0
  have hl := h.low
  have d1 : decide ((0 : Int) < (pl : Int)) = true := decide_eq_true (by omega)
  have d2 : decide (0 < pl) = true := decide_eq_true (by omega)
  have H := Lib.hid h
  clear h hl
  go_enter Try.func34, Try.ntmps34
  go_wp2_with fail
  go_ret
  exact ⟨rfl, rfl⟩
theorem ssent (h : SenR w g own peer gr us) : Calls Try.prog 24 #[.pointer (some ⟨g, 0, none⟩)] w fun e w' => e = .returned (.int .u64 (us : Int)) ∧ w' = w := by
  have c := h.c2
  go_enter Try.func24, Try.ntmps24
  go_wp2_with fail
  refine (smade h).mono ?_
  rintro e w1 ⟨rfl, rfl⟩
  go_wp2_with fail
  refine (reached_any gr us h.hu _).mono ?_
  rintro e w1 ⟨rfl, rfl⟩
  go_wp2_with fail
  go_ret
  exact ⟨rfl, rfl⟩
theorem sgranted (h : SenR w g own peer gr us) : Calls Try.prog 25 #[.pointer (some ⟨g, 0, none⟩)] w fun e w' => e = .returned (.int .u64 (gr : Int)) ∧ w' = w := by
  have c := h.c2
  go_enter Try.func25, Try.ntmps25
  go_wp2_with fail
  refine (smade h).mono ?_
  rintro e w1 ⟨rfl, rfl⟩
  go_wp2_with fail
  refine (granted_any gr us h.hg _).mono ?_
  rintro e w1 ⟨rfl, rfl⟩
  go_wp2_with fail
  go_ret
  exact ⟨rfl, rfl⟩
theorem rlife (h : RecR w g pl peer gr sn) : Calls Try.prog 26 #[.pointer (some ⟨g, 0, none⟩)] w fun e w' => e = .returned (.int .u64 (peer : Int)) ∧ w' = w := by
  have c := h.c1
  go_enter Try.func26, Try.ntmps26
  go_wp2_with fail
  refine (rmade h).mono ?_
  rintro e w1 ⟨rfl, rfl⟩
  go_wp2_with fail
  go_ret
  exact ⟨rfl, rfl⟩
theorem rseen (h : RecR w g pl peer gr sn) : Calls Try.prog 27 #[.pointer (some ⟨g, 0, none⟩)] w fun e w' => e = .returned (.int .u64 (sn : Int)) ∧ w' = w := by
  have c := h.c2
  go_enter Try.func27, Try.ntmps27
  go_wp2_with fail
  refine (rmade h).mono ?_
  rintro e w1 ⟨rfl, rfl⟩
  go_wp2_with fail
  refine (reached_any gr sn h.hs _).mono ?_
  rintro e w1 ⟨rfl, rfl⟩
  go_wp2_with fail
  go_ret
  exact ⟨rfl, rfl⟩
theorem smay (h : SenR w g own peer gr us) : Calls Try.prog 22 #[.pointer (some ⟨g, 0, none⟩)] w fun e w' => e = .returned (.bool (decide (us < gr))) ∧ w' = w := by
  go_enter Try.func22, Try.ntmps22
  go_wp2_with fail
  refine (sgranted h).mono ?_
  rintro e w1 ⟨rfl, rfl⟩
  go_wp2_with fail
  refine (ssent h).mono ?_
  rintro e w1 ⟨rfl, rfl⟩
  go_wp2_with fail
  go_ret
  exact ⟨by simp, rfl⟩
/-- What Use leaves and tells. -/
def useU (gr us : Nat) : Nat := if us < gr then us + 1 else us
def useV (gr us : Nat) : Nat := if us < gr then us + 1 else 0
def useE (gr us : Nat) : Int := if us < gr then 0 else 26
set_option maxHeartbeats 1000000 in
theorem suse (h : SenR w g own peer gr us) : Calls Try.prog 14 #[.pointer (some ⟨g, 0, none⟩)] w fun e w' => e = .returned (.tuple #[.int .u64 (useV gr us : Int), .int .i64 (useE gr us)]) ∧ SenR w' g own peer gr (useU gr us) ∧ Turned (fun b => b = g) w w' := by
  have hg := h.hg
  by_cases hlt : us < gr
  · obtain ⟨u1, hu1⟩ : ∃ u, us + 1 = u := ⟨_, rfl⟩
    have eV : useV gr us = u1 := by unfold useV; rw [if_pos hlt, hu1]
    have eU : useU gr us = u1 := by unfold useU; rw [if_pos hlt, hu1]
    have eE : useE gr us = 0 := if_pos hlt
    have cM := (smay h).mono fun e w' q => (⟨by rw [q.1, decide_eq_true hlt], q.2⟩ : e = .returned (.bool true) ∧ w' = w)
    have s1 : IntKind.u64.wrap ((us : Int) + 1) = (u1 : Int) := by rw [IntWalk.u64_in _ (by omega)]; omega
    have hD : SenR w.drew g own peer gr us := h.keep (Keep.refl w).drew
    have c2 := hD.c2
    have fz := hD.f2
    have h2 := hD.counts (a := gr) (b := u1) hg (by omega)
    have CS := Lib.hid ((ssent hD).mono fun e w' q => (⟨q.1, q.2⟩ : e = .returned (.int .u64 (us : Int)) ∧ w' = w.drew))
    have CR := Lib.hid ((withReached_any gr us u1 w.drew).mono fun e w' q => (⟨q.1, q.2⟩ : e = .returned (.complex .f64 (fl gr) (fl u1)) ∧ w' = w.drew))
    have C3 := Lib.hid (ssent h2)
    have H2 := Lib.hid h2
    have HT : Hid (Turned (fun b => b = g) w (w.drew.setCell ⟨g, 2, none⟩ (.complex .f64 (fl gr) (fl u1)))) := (Turned.of_keep (F := fun b => b = g) (Keep.refl w).drew).trans (Turned.set (F := fun b => b = g) _ ⟨g, 2, none⟩ _ rfl) fun i e => Or.inl e
    rw [eV, eU, eE]
    clear hu1 eV eU eE hlt h2 hg hD
    go_enter Try.func14, Try.ntmps14
    go_wp2_with fail
    refine (smade h).mono ?_
    rintro e w1 ⟨rfl, rfl⟩
    go_wp2_with fail
    refine cM.mono ?_
    rintro e w1 ⟨rfl, rfl⟩
    go_wp2_with fail
    refine wp_region_still_tail (w := w1) 11 (by kernel_rfl) (by kernel_rfl) ?_
    simp only [List.take_succ_cons, List.take_zero, List.drop_succ_cons, List.drop_zero]
    change wpStill _ _ (World.drew w1) _ _ _
    iterate 6 still_step
    still_call CS.out
    iterate 1 still_step
    still_call CR.out
    iterate 2 still_step
    refine wpStill_nil ?_
    change wpList _ _ _ _ _ (World.drew w1)
    go_wp2_with fail
    refine C3.out.mono ?_
    rintro e w2 ⟨rfl, rfl⟩
    go_wp2_with fail
    go_ret2
    exact ⟨rfl, H2.out, HT.out⟩
  · have eV : useV gr us = 0 := if_neg hlt
    have eU : useU gr us = us := if_neg hlt
    have eE : useE gr us = 26 := if_neg hlt
    have cM := (smay h).mono fun e w' q => (⟨by rw [q.1, decide_eq_false hlt], q.2⟩ : e = .returned (.bool false) ∧ w' = w)
    rw [eV, eU, eE]
    clear eV eU eE hlt hg
    go_enter Try.func14, Try.ntmps14
    go_wp2_with fail
    refine (smade h).mono ?_
    rintro e w1 ⟨rfl, rfl⟩
    go_wp2_with fail
    refine cM.mono ?_
    rintro e w1 ⟨rfl, rfl⟩
    go_wp2_with fail
    go_ret2
    exact ⟨rfl, h, Turned.refl _ _⟩
end
end Go.Proofs.Ytgogafhpchfinaa
