/- Words for memory: nothing that was there has turned. -/
import Derived.Below
import Derived.Carry
import Derived.Laws.Rows
import Derived.Deep.Draws
import Derived.Laws.BytesArg
import Derived.Laws.AppendOwn
import Derived.Laws.OwnMore
import Derived.Laws.MakeOwn
import Derived.Maps.AppendAt
import Derived.OwnWalk
import Derived.Deep.Slices
import Derived.OpenShut
import Derived.SizedLaws
import Derived.Test.YtifopodnceopjaaGreatDoorProg
import Derived.WalkKit
import Derived.WalkSpells
import Derived.Lib.Hide
import Derived.Deep.RegionHeld3
import Derived.Deep.AppendLies
import Derived.Deep.QuietTactic
import Derived.BigQuiet
import Derived.Tactics
import Derived.WalkLawsBesides
import Derived.ChangeOld
import Derived.ChangeShapes
import Derived.JoinedOf
import Derived.ProofKit
import Derived.Deep.DeepHandedRow
import Derived.Lib.LaidTab
namespace Go.Proofs.YtifopodnceopjaaGreatDoor
open Go.RowKit

/-- Nothing of what was there has turned; new blocks may lie behind. -/
def Keep (w w' : World) : Prop := Below w.heap.size w w'
namespace Keep
variable {W w w' : World}
theorem refl (w : World) : Keep w w := Below.refl _ _
theorem trans {a b c : World} (h : Keep a b) (k : Keep b c) : Keep a c := Below.trans h (Below.mono k (Below.size h))
theorem alloc (h : Keep W w) (c : Array Value) (t : TypeId) : Keep W (w.alloc (.cells c t)) := Below.alloc h (Below.size h) _
theorem setCell (h : Keep W w) {a : Addr} (ha : W.heap.size ≤ a.block) (v : Value) : Keep W (w.setCell a v) := Below.setCell h ha v
theorem drew (h : Keep W w) : Keep W w.drew := Below.drew h
theorem drewN (h : Keep W w) (n : Nat) : Keep W (w.drewN n) := ⟨h.os, h.tape, h.output, h.size, h.block⟩
theorem grown {row : Option Nat} (h : Keep W w) (hg : w.grownBy w' row) (hr : ∀ k, row = some k → W.heap.size ≤ k) : Keep W w' := Below.grown h hg (Below.size h) hr
theorem setRow (h : Keep W w) {g : Nat} (hg : W.heap.size ≤ g) {old cs : Array Value} {t : TypeId} (_hb : w.heap[g]? = some (.cells old t)) : Keep W (w.setRow g cs) :=
  Below.trans h ⟨rfl, rfl, rfl, by rw [setRow_size]; exact Nat.le_refl _, fun k hk => setRow_other w g k cs (by omega)⟩
theorem block (h : Keep W w) (k : Nat) (hk : k < W.heap.size) : w.heap[k]? = W.heap[k]? := Below.block h k hk
theorem size (h : Keep W w) : W.heap.size ≤ w.heap.size := Below.size h
end Keep
end Go.Proofs.YtifopodnceopjaaGreatDoor
/- Slices of bytes: what they hold, in memory that was there or is new; as strings. -/
namespace Go.Proofs.YtifopodnceopjaaGreatDoor
open Go.RowKit Go.ChangeShapes Go.WideShapes

/-- Bytes as cells. -/
def u8s (xs : List Nat) : List Value := xs.map fun x : Nat => Value.int .u8 (x : Int)
def AllB (xs : List Nat) : Prop := ∀ x ∈ xs, x < 256
theorem u8s_length (xs : List Nat) : (u8s xs).length = xs.length := by simp [u8s]
theorem u8s_get (xs : List Nat) (i : Nat) : (u8s xs)[i]? = xs[i]?.map fun x : Nat => Value.int .u8 (x : Int) := by simp [u8s]
theorem AllB.at {xs : List Nat} (h : AllB xs) (i : Nat) (hi : i < xs.length) : xs[i] < 256 := h _ (List.getElem_mem hi)
theorem AllB.getD {xs : List Nat} (h : AllB xs) (i : Nat) : xs.getD i 0 < 256 := by
  rw [List.getD_eq_getElem?_getD]
  cases e : xs[i]? with
  | none => exact (by decide : 0 < 256)
  | some x => exact h x (List.mem_of_getElem? e)
theorem AllB.append {xs ys : List Nat} (h : AllB xs) (k : AllB ys) : AllB (xs ++ ys) := fun x hx => by
  rcases List.mem_append.1 hx with h1 | h1
  · exact h x h1
  · exact k x h1
theorem AllB.take {xs : List Nat} (h : AllB xs) (n : Nat) : AllB (xs.take n) := fun x hx => h x (List.mem_of_mem_take hx)

/-- A slice of n bytes at A, below block B: they are xs. -/
def Bytes (w : World) (B : Nat) (A : Option Addr) (n : Nat) (xs : List Nat) : Prop :=
  xs.length = n ∧ AllB xs ∧ (0 < n → ∃ b off, A = some ⟨b, off, none⟩ ∧ b < B ∧ ∀ i, i < n → w.cell? ⟨b, off + i, none⟩ = some (.int .u8 ((xs.getD i 0 : Nat) : Int)))
namespace Bytes
variable {w w' : World} {B B' n : Nat} {A : Option Addr} {xs : List Nat}
theorem length (h : Bytes w B A n xs) : xs.length = n := h.1
theorem all (h : Bytes w B A n xs) : AllB xs := h.2.1
theorem nil (w : World) (B : Nat) (A : Option Addr) : Bytes w B A 0 [] := ⟨rfl, fun _ h => by simp at h, fun h => absurd h (by omega)⟩
theorem below (h : Bytes w B A n xs) (k : Below B w w') : Bytes w' B A n xs := ⟨h.1, h.2.1, fun hn => by
  obtain ⟨b, off, e, hb, hc⟩ := h.2.2 hn
  exact ⟨b, off, e, hb, fun i hi => (k.cell (p := ⟨b, off + i, none⟩) hb).trans (hc i hi)⟩⟩
theorem keep (h : Bytes w B A n xs) (hB : B ≤ w.heap.size) (k : Keep w w') : Bytes w' B A n xs := h.below (Below.mono k hB)
theorem mono (h : Bytes w B A n xs) (hB : B ≤ B') : Bytes w B' A n xs := ⟨h.1, h.2.1, fun hn => by
  obtain ⟨b, off, e, hb, hc⟩ := h.2.2 hn
  exact ⟨b, off, e, by omega, hc⟩⟩
theorem at_ (h : Bytes w B A n xs) {k : Nat} (hk : k < n) : ∃ b off, A = some ⟨b, off, none⟩ ∧ b < B ∧ w.cell? ⟨b, off + k, none⟩ = some (.int .u8 ((xs.getD k 0 : Nat) : Int)) := by
  obtain ⟨b, off, e, hb, hc⟩ := h.2.2 (by omega)
  exact ⟨b, off, e, hb, hc k hk⟩
end Bytes

theorem toList_inj {a b : ByteArray} (h : a.toList = b.toList) : a = b := by
  rw [ByteArray.toList_eq, ByteArray.toList_eq] at h
  exact Go.WideShapes.bytes_inj h
/-- The bytes as a string. -/
def strN (xs : List Nat) : ByteArray := ⟨(xs.map UInt8.ofNat).toArray⟩
theorem strN_inj {xs ys : List Nat} (hx : AllB xs) (hy : AllB ys) (h : strN xs = strN ys) : xs = ys := by
  have h1 : xs.map UInt8.ofNat = ys.map UInt8.ofNat := by
    have := congrArg (fun b : ByteArray => b.data.toList) h
    simpa [strN] using this
  have key : ∀ (a b : List Nat), AllB a → AllB b → a.map UInt8.ofNat = b.map UInt8.ofNat → a = b := by
    intro a
    induction a with
    | nil => intro b _ _ e; cases b with
      | nil => rfl
      | cons y ys => simp at e
    | cons x xs ih =>
      intro b ha hb e
      cases b with
      | nil => simp at e
      | cons y ys =>
        simp only [List.map_cons, List.cons.injEq] at e
        have hx := ha x (by simp)
        have hy := hb y (by simp)
        have e1 := congrArg UInt8.toNat e.1
        simp only [UInt8.toNat_ofNat'] at e1
        rw [Nat.mod_eq_of_lt hx, Nat.mod_eq_of_lt hy] at e1
        rw [e1, ih ys (fun z hz => ha z (by simp [hz])) (fun z hz => hb z (by simp [hz])) e.2]
  exact key xs ys hx hy h1
theorem strN_eq {xs ys : List Nat} (h : xs = ys) : ((strN xs).toList == (strN ys).toList) = true := by subst h; exact beq_iff_eq.2 rfl
theorem strN_ne {xs ys : List Nat} (hx : AllB xs) (hy : AllB ys) (h : xs ≠ ys) : ((strN xs).toList == (strN ys).toList) = false :=
  beq_eq_false_iff_ne.2 fun e => h (strN_inj hx hy (toList_inj e))

section
variable {P : Program}
/-- string(b). -/
theorem run_str {w : World} {B n : Nat} {A : Option Addr} {xs : List Nat} (h : Bytes w B A n xs) {src e dst : TypeId} (hs : P.underlying src = some (.slice e)) (he : P.underlying e = some (.int .u8)) (hd : P.underlying dst = some .string) (c : Nat) :
    (convert src dst (.slice A n c)).run P w = .ok (.string (strN xs)) w := by
  have hnums : strOfNums (xs.map fun x : Nat => (x : Int)) = strN xs := by
    simp [strOfNums, strN, Function.comp_def]
  by_cases hn : n = 0
  · subst hn
    have hx : xs = [] := List.eq_nil_of_length_eq_zero h.1
    subst hx
    cases A with
    | none =>
      rw [run_convert_bytes_nil w src e hs he 0 c dst hd]
      rfl
    | some ad =>
      rw [run_convert_bytes_string w src dst e _ 0 c hs he hd, run_bytesToString w ad 0 c [] (by simpa using run_loadCells_list (P := P) w ad [] (fun j v hv => by simp at hv))]
      rfl
  · obtain ⟨b, off, rfl, _, hc⟩ := h.2.2 (by omega)
    rw [run_convert_bytes_arg w src e hs he b off n c (xs.map fun x : Nat => (x : Int)) (by simpa using h.1) (fun i hi => by
      rw [hc i hi]
      have hl : i < xs.length := by rw [h.1]; exact hi
      simp [List.getD, hl]) dst hd, hnums]
end

/-- New memory: a slice of n bytes in a block from base on, which may be written. -/
def Own (w : World) (base : Nat) (e : TypeId) (A : Option Addr) (n c : Nat) (xs : List Nat) : Prop :=
  w.ownsRow base e 1 (.slice A n c) n (u8s xs) ∧ AllB xs
namespace Own
variable {w w' : World} {base n c : Nat} {e : TypeId} {A : Option Addr} {xs : List Nat}
theorem length (h : Own w base e A n c xs) : xs.length = n := by have := h.1.1; simpa [u8s] using this
theorem none_ (w : World) (base : Nat) (e : TypeId) : Own w base e none 0 0 [] := ⟨World.ownsRow_nil w base e 1, fun _ h => by simp at h⟩
/-- Where it lies. -/
theorem block (h : Own w base e A n c xs) (hn : 0 < n) : ∃ g, A = some ⟨g, 0, none⟩ ∧ base ≤ g ∧ g < w.heap.size := by
  rcases h.1.2 with ⟨hv, h0⟩ | ⟨g, cap, cur, hv, hg, hh, _⟩
  · omega
  · injection hv with h1 h2 h3
    exact ⟨g, h1, hg, (Array.getElem?_eq_some_iff.1 hh).1⟩
theorem bytes (h : Own w base e A n c xs) : Bytes w w.heap.size A n xs := by
  refine ⟨h.length, h.2, fun hn => ?_⟩
  obtain ⟨g, rfl, _, hlt⟩ := h.block hn
  refine ⟨g, 0, rfl, hlt, fun i hi => ?_⟩
  have hl : i < xs.length := by rw [h.length]; exact hi
  have hc := h.1.cells (g := g) rfl i (.int .u8 ((xs.getD i 0 : Nat) : Int)) (by rw [u8s_get]; simp [List.getD, hl])
  have ha : (⟨g, 0, none⟩ : Addr).add i = ⟨g, 0 + i, none⟩ := by unfold Addr.add; split <;> simp_all
  rwa [ha] at hc
theorem keep (h : Own w base e A n c xs) (k : Keep w w') : Own w' base e A n c xs :=
  ⟨h.1.kept (row := none) ⟨k.os, k.tape, k.output, k.size, fun i hi _ => k.block i hi⟩ (by
    cases hb : (Value.slice A n c).ownBlock with
    | none => exact Or.inl rfl
    | some g => exact Or.inr (by simp)), h.2⟩
end Own

theorem u8s_one (xs : List Nat) : ∀ u ∈ u8s xs, u.oneCell' = true := by
  intro u hu
  simp only [u8s, List.mem_map] at hu
  obtain ⟨x, _, rfl⟩ := hu
  rfl
theorem u8s_append (xs ys : List Nat) : u8s (xs ++ ys) = u8s xs ++ u8s ys := by simp [u8s]
theorem own_shape {w : World} {base e size n : Nat} {v : Value} {xs : List Value} (h : w.ownsRow base e size v n xs) : ∃ A c, v = .slice A n c := by
  rcases h.2 with ⟨rfl, rfl⟩ | ⟨g, cap, cur, rfl, _⟩
  · exact ⟨none, 0, rfl⟩
  · exact ⟨_, _, rfl⟩
theorem Bytes.cells {w : World} {B n b off : Nat} {xs : List Nat} (h : Bytes w B (some ⟨b, off, none⟩) n xs) (hn : 0 < n) : ∀ j u, (u8s xs)[j]? = some u → w.cell? ((⟨b, off, none⟩ : Addr).add j) = some u := by
  obtain ⟨b', off', e, _, hc⟩ := h.2.2 hn
  injection e with e
  injection e with e1 e2
  subst e1; subst e2
  intro j u hu
  rw [u8s_get] at hu
  have hj : j < xs.length := by
    rcases Nat.lt_or_ge j xs.length with hj | hj
    · exact hj
    · rw [List.getElem?_eq_none hj] at hu; cases hu
  have ha : (⟨b, off, none⟩ : Addr).add j = ⟨b, off + j, none⟩ := by unfold Addr.add; split <;> simp_all
  rw [ha, hc j (by rw [← h.1]; exact hj), ← hu]
  simp [List.getD, hj]

section
variable {P : Program}
/-- append(s, x...): s new memory (or nil), x any bytes. -/
theorem run_append_bytes {w : World} {base n c B m cx t e : Nat} {A A' : Option Addr} {xs ys : List Nat} (ht : P.underlying t = some (.slice e))
    (hi : (P.info? e).map (fun i => (i.zero, i.size, i.bytes)) = some (some (.int .u8 0), 1, 1)) (hown : Own w base e A n c xs) (hx : Bytes w B A' m ys) (hlen : n + m ≤ 140737488355328) (hbase : base ≤ w.heap.size) (ty : TypeId) :
    ∃ A2 c2 w', (Builtin.append_ #[t, t] ty #[.slice A n c, .slice A' m cx]).run P w = .ok (.slice A2 (n + m) c2) w' ∧ Own w' base e A2 (n + m) c2 (xs ++ ys) ∧ w.grownBy w' (Value.slice A n c).ownBlock ∧ ((Value.slice A2 (n + m) c2).ownBlock = (Value.slice A n c).ownBlock ∨ (Value.slice A2 (n + m) c2).ownBlock = some w.heap.size) := by
  obtain ⟨i0, hi0, hz0, hz1, hz2⟩ := info_parts hi
  have hb : (n + m) * 1 ≤ 140737488355328 := by omega
  have h63 : n + m ≤ maxLen := by unfold maxLen; omega
  have main : ∀ ad : Addr, A' = some ad → (∀ j u, (u8s ys)[j]? = some u → w.cell? (ad.add j) = some u) →
      ∃ A2 c2 w', (Builtin.append_ #[t, t] ty #[.slice A n c, .slice A' m cx]).run P w = .ok (.slice A2 (n + m) c2) w' ∧ Own w' base e A2 (n + m) c2 (xs ++ ys) ∧ w.grownBy w' (Value.slice A n c).ownBlock ∧ ((Value.slice A2 (n + m) c2).ownBlock = (Value.slice A n c).ownBlock ∨ (Value.slice A2 (n + m) c2).ownBlock = some w.heap.size) := by
    rintro ad rfl hc
    obtain ⟨v', w', hrun, h2, h3, _, h5⟩ := run_append_own_at (P := P) w base t ty e i0 (.int .u8 0) 1 1 ht hi0 hz0 hz1 hz2 rfl (by decide) _ n (u8s xs) hown.1 ad m cx (u8s ys) (by rw [u8s_length, hx.1, Nat.mul_one]) hc (u8s_one ys) h63 hb hbase
    obtain ⟨A2, c2, rfl⟩ := own_shape h2
    exact ⟨A2, c2, w', hrun, ⟨by rw [u8s_append]; exact h2, hown.2.append hx.2.1⟩, h3, h5⟩
  by_cases hm : m = 0
  · subst hm
    have hy : ys = [] := List.eq_nil_of_length_eq_zero hx.1
    subst hy
    cases A' with
    | some ad => exact main ad rfl (fun j u hu => by simp [u8s] at hu)
    | none =>
      refine ⟨A, c, w, ?_, by simpa using hown, World.grownBy.refl w _, Or.inl rfl⟩
      rcases hown.1.2 with ⟨hv, rfl⟩ | ⟨g, cap, cur, hv, _, _, hnc, _⟩
      · simp [Builtin.append_, run_underlying ht, sizeOf, typeInfo, hi0, Builtin.lenOf, Builtin.firstCells, hv]
      · injection hv with e1 _ e3
        subst e1; subst e3
        simp [Builtin.append_, run_underlying ht, sizeOf, typeInfo, hi0, Builtin.lenOf, Builtin.firstCells, hnc, storeCells]
  · obtain ⟨b, off, rfl, _, _⟩ := hx.2.2 (by omega)
    exact main _ rfl (hx.cells (by omega))
/-- .. at the operation. -/
theorem wp_append_bytes {w : World} {o : Oper} {a : Act} {K : Act → World → Prop} {Q : Exit → Act → World → Prop} (s x : Operand) (t : TypeId)
    (ho : o.op = .call { callee := .builtin .append, args := #[s, x], argTypes := #[t, t] }) {base n c B m cx e : Nat} {A A' : Option Addr} {xs ys : List Nat} (ht : P.underlying t = some (.slice e))
    (hi : (P.info? e).map (fun i => (i.zero, i.size, i.bytes)) = some (some (.int .u8 0), 1, 1)) (hs : a.eval s = .slice A n c) (hown : Own w base e A n c xs) (hx0 : a.eval x = .slice A' m cx) (hx : Bytes w B A' m ys) (hlen : n + m ≤ 140737488355328) (hbase : base ≤ w.heap.size)
    (h : ∀ A2 c2 w', Own w' base e A2 (n + m) c2 (xs ++ ys) → w.grownBy w' (Value.slice A n c).ownBlock → ((Value.slice A2 (n + m) c2).ownBlock = (Value.slice A n c).ownBlock ∨ (Value.slice A2 (n + m) c2).ownBlock = some w.heap.size) → K (a.put o.dst (.slice A2 (n + m) c2)) w') : o.wp P a w K Q := by
  obtain ⟨A2, c2, w', hr, h2, h3, h4⟩ := run_append_bytes (P := P) (cx := cx) ht hi hown hx hlen hbase o.type
  unfold Oper.wp execOp
  simp only [ho, resolve, invoke, builtin, Sem.run_bind, Sem.run_pure, Result.andThen_ok, List.map_toArray, List.map_cons, List.map_nil, hs, hx0, hr]
  exact h A2 c2 w' h2 h3 h4
theorem wpList_append_bytes {w : World} {ops : Array Oper} {rest : List Oper} {o : Oper} {a : Act} {Q : Exit → Act → World → Prop} (hgd : o.guard = none) (s x : Operand) (t : TypeId)
    (ho : o.op = .call { callee := .builtin .append, args := #[s, x], argTypes := #[t, t] }) {base n c B m cx e : Nat} {A A' : Option Addr} {xs ys : List Nat} (ht : P.underlying t = some (.slice e))
    (hi : (P.info? e).map (fun i => (i.zero, i.size, i.bytes)) = some (some (.int .u8 0), 1, 1)) (hs : a.eval s = .slice A n c) (hown : Own w base e A n c xs) (hx0 : a.eval x = .slice A' m cx) (hx : Bytes w B A' m ys) (hlen : n + m ≤ 140737488355328) (hbase : base ≤ w.heap.size)
    (h : ∀ A2 c2 w', Own w' base e A2 (n + m) c2 (xs ++ ys) → w.grownBy w' (Value.slice A n c).ownBlock → ((Value.slice A2 (n + m) c2).ownBlock = (Value.slice A n c).ownBlock ∨ (Value.slice A2 (n + m) c2).ownBlock = some w.heap.size) → wpList P ops Q rest (a.put o.dst (.slice A2 (n + m) c2)) w') : wpList P ops Q (o :: rest) a w :=
  wpList_plain hgd fun _ hK => wp_append_bytes s x t ho ht hi hs hown hx0 hx hlen hbase fun A2 c2 w' h2 h3 h4 => hK _ _ (h A2 c2 w' h2 h3 h4)
/-- One byte in a block of its own. -/
theorem Bytes.one (w : World) (v : Nat) (hv : v < 256) (t : TypeId) : Bytes (w.alloc (.cells #[.int .u8 (v : Int)] t)) (w.heap.size + 1) (some ⟨w.heap.size, 0, none⟩) 1 [v] :=
  ⟨rfl, fun x hx => by simp at hx; omega, fun _ => ⟨w.heap.size, 0, rfl, by omega, fun i hi => by
    obtain rfl : i = 0 := by omega
    rw [cell_of_row _ _ _ _ _ _ (heap_alloc_new w _)]
    rfl⟩⟩
theorem Own.alloc {w : World} {base n c : Nat} {e : TypeId} {A : Option Addr} {xs : List Nat} (h : Own w base e A n c xs) (o : Obj) : Own (w.alloc o) base e A n c xs := ⟨h.1.alloc o, h.2⟩
theorem Own.drew {w : World} {base n c : Nat} {e : TypeId} {A : Option Addr} {xs : List Nat} (h : Own w base e A n c xs) : Own w.drew base e A n c xs := ⟨h.1, h.2⟩
theorem Bytes.drew {w : World} {B n : Nat} {A : Option Addr} {xs : List Nat} (h : Bytes w B A n xs) : Bytes w.drew B A n xs := h
/-- What may turn when new memory is appended to lies from base on. -/
theorem Own.rowLe {w : World} {base n c : Nat} {e : TypeId} {A : Option Addr} {xs : List Nat} (h : Own w base e A n c xs) : ∀ k, (Value.slice A n c).ownBlock = some k → base ≤ k := fun k hk => (h.1.lt k hk).1
end

theorem u8s_zeros (n : Nat) : u8s (List.replicate n 0) = List.replicate n (.int .u8 0) := by simp [u8s]
theorem AllB.zeros (n : Nat) : AllB (List.replicate n 0) := fun x hx => by rw [(List.mem_replicate.1 hx).2]; decide
/-- make([]byte, n). -/
theorem run_make_bytes {P : Program} {t e : TypeId} (ht : P.underlying t = some (.slice e)) (hi : (P.info? e).map (fun i => (i.zero, i.size, i.bytes)) = some (some (.int .u8 0), 1, 1)) (n : Nat) (hn : n ≤ 140737488355328) (w : World) :
    (Instr.makeSlice t (.int .i64 (n : Int)) (.int .i64 (n : Int))).run P w = .ok (.slice (some ⟨w.heap.size, 0, none⟩) n n) (w.alloc (.cells (madeCells #[.int .u8 0] n) e)) := by
  obtain ⟨i0, hi0, hz0, hz1, hz2⟩ := info_parts hi
  have h := run_make (P := P) w t e i0 (.int .u8 0) ht hi0 hz0 .i64 .i64 n n (by omega) (Int.le_refl _) (by rw [hz2]; omega) (by omega)
  simpa [hz1, Value.cells] using h
theorem Own.made (w : World) (e : TypeId) (n : Nat) (hn : n ≤ 140737488355328) : Own (w.alloc (.cells (madeCells #[.int .u8 0] n) e)) w.heap.size e (some ⟨w.heap.size, 0, none⟩) n n (List.replicate n 0) := by
  refine ⟨?_, AllB.zeros n⟩
  have h := World.ownsRow_lit (w := w) (base := w.heap.size) (e := e) (size := 1) (madeCells #[.int .u8 0] n) n (Nat.le_refl _) (by unfold maxLen; omega) (by rw [size_madeCells]; omega)
  rwa [toList_madeCells_one, ← u8s_zeros] at h
/-- A slice literal. -/
theorem Own.lit (w : World) (e : TypeId) (n : Nat) (xs : List Nat) (cs : Array Value) (hc : cs = (u8s xs).toArray) (hl : xs.length = n) (hn : n ≤ 140737488355328) (hx : AllB xs) : Own (w.alloc (.cells cs e)) w.heap.size e (some ⟨w.heap.size, 0, none⟩) n n xs := by
  subst hc
  have h := World.ownsRow_lit (w := w) (base := w.heap.size) (e := e) (size := 1) (u8s xs).toArray n (Nat.le_refl _) (by unfold maxLen; omega) (by simp [u8s, hl])
  exact ⟨by simpa using h, hx⟩
theorem u8s_set (xs : List Nat) (i v : Nat) : (u8s xs).set i (.int .u8 (v : Int)) = u8s (xs.set i v) := by simp [u8s, List.map_set]
theorem AllB.set {xs : List Nat} (h : AllB xs) (i v : Nat) (hv : v < 256) : AllB (xs.set i v) := fun x hx => by
  rcases List.mem_or_eq_of_mem_set hx with h1 | h1
  · exact h x h1
  · rw [h1]; exact hv
/-- A store into new memory. -/
theorem Own.stored {w : World} {base e n c g i v : Nat} {xs : List Nat} (h : Own w base e (some ⟨g, 0, none⟩) n c xs) (hv : v < 256) : Own (w.setCell ⟨g, i, none⟩ (.int .u8 (v : Int))) base e (some ⟨g, 0, none⟩) n c (xs.set i v) :=
  ⟨by rw [← u8s_set]; exact (h.1.stored i _).1, h.2.set i v hv⟩
theorem Own.cell {w : World} {base e n c g i : Nat} {xs : List Nat} (h : Own w base e (some ⟨g, 0, none⟩) n c xs) (hi : i < n) : w.cell? ⟨g, i, none⟩ = some (.int .u8 ((xs.getD i 0 : Nat) : Int)) := by
  have hl : i < xs.length := by rw [h.length]; exact hi
  rw [h.1.cellAt i (by omega), u8s_get]
  simp [List.getD, hl]
theorem Own.frozen {w : World} {base e n c g : Nat} {xs : List Nat} (h : Own w base e (some ⟨g, 0, none⟩) n c xs) (i : Nat) : w.frozen? ⟨g, i, none⟩ = false := h.1.frozenAt i
/-- Another block is written. -/
theorem Own.far {w : World} {base e n c : Nat} {A : Option Addr} {xs : List Nat} (h : Own w base e A n c xs) {p : Addr} (hp : (Value.slice A n c).ownBlock ≠ some p.block) (v : Value) : Own (w.setCell p v) base e A n c xs :=
  ⟨h.1.kept (row := some p.block) ⟨rfl, rfl, rfl, by simp [World.setCell], fun i _ hi => Below.heap_setCell w p v i (fun e => hi (by rw [e]))⟩ (Or.inr hp), h.2⟩
theorem Own.lower {w : World} {base base' e n c : Nat} {A : Option Addr} {xs : List Nat} (h : Own w base e A n c xs) (hb : base' ≤ base) : Own w base' e A n c xs := by
  refine ⟨⟨h.1.1, ?_⟩, h.2⟩
  rcases h.1.2 with h1 | ⟨g, cap, cur, hv, hg, r⟩
  · exact Or.inl h1
  · exact Or.inr ⟨g, cap, cur, hv, by omega, r⟩
theorem Bytes.cut {w : World} {B n m : Nat} {A : Option Addr} {xs : List Nat} (h : Bytes w B A n xs) (hm : m ≤ n) : Bytes w B A m (xs.take m) := by
  refine ⟨by rw [List.length_take, h.1]; omega, h.2.1.take m, fun hp => ?_⟩
  obtain ⟨b, off, e, hb, hc⟩ := h.2.2 (by omega)
  refine ⟨b, off, e, hb, fun i hi => ?_⟩
  rw [hc i (by omega)]
  have hl : i < xs.length := by rw [h.1]; omega
  simp [List.getD, hl, hi]
theorem Bytes.alloc {w : World} {B n : Nat} {A : Option Addr} {xs : List Nat} (h : Bytes w B A n xs) (hB : B ≤ w.heap.size) (o : Obj) : Bytes (w.alloc o) B A n xs := h.below (Below.alloc (Below.refl _ _) hB o)
/-- A slice literal, its place said. -/
theorem Bytes.lit {w : World} {h : Nat} (hh : w.heap.size = h) (t : TypeId) (n : Nat) (xs : List Nat) (cs : Array Value) (hc : cs = (u8s xs).toArray) (hl : xs.length = n) (hn : n ≤ 140737488355328) (hx : AllB xs) : Bytes (w.alloc (.cells cs t)) (h + 1) (some ⟨h, 0, none⟩) n xs := by
  have hb := (Own.lit w t n xs cs hc hl hn hx).bytes
  rw [hh] at hb
  exact hb.mono (by simp [hh])
instance (xs : List Nat) : Decidable (AllB xs) := inferInstanceAs (Decidable (∀ x ∈ xs, x < 256))
end Go.Proofs.YtifopodnceopjaaGreatDoor
/- What a call hands back that lays bytes in new memory. -/
namespace Go.Proofs.YtifopodnceopjaaGreatDoor
open Go.RowKit
theorem info5 : (Tryz.prog.info? 5).map (fun i => (i.zero, i.size, i.bytes)) = some (some (.int .u8 0), 1, 1) := by kernel_rfl
/-- What a call hands back that lays a slice of bytes in new memory. -/
def NewBytes (w : World) (xs : List Nat) (r : Ending) (w' : World) : Prop :=
  ∃ A n c, r = .returned (.slice A n c) ∧ Own w' w.heap.size 5 A n c xs ∧ Keep w w'
/-- .. and an error. -/
def NewPair (w : World) (xs : List Nat) (er : Int) (r : Ending) (w' : World) : Prop :=
  ∃ A n c, r = .returned (.tuple #[.slice A n c, .int .i64 er]) ∧ Own w' w.heap.size 5 A n c xs ∧ Keep w w'
theorem NewPair.nil (w : World) (er : Int) : NewPair w [] er (.returned (.tuple #[.slice none 0 0, .int .i64 er])) w := ⟨none, 0, 0, rfl, Own.none_ _ _ _, Keep.refl _⟩
theorem quiet_of_eq {P : Program} {f : FuncId} {args : Array Value} {w : World} {n : Nat} {v : Value}
    (h : Calls P f args (w.drewN n) fun e w' => e = .returned v ∧ w.drewN n = w') : Calls P f args (w.drewN n) fun e w'' => e = .returned v ∧ ∃ m, w'' = w.drewN m :=
  h.mono fun _ _ h => ⟨h.1, n, h.2.symm⟩
end Go.Proofs.YtifopodnceopjaaGreatDoor
/- Sums of bytes, plainly: registers of 32 bits, joined sums, bits turned (layer 4). -/
namespace Go.Proofs.YtifopodnceopjaaGreatDoor.Crc
def poly : Nat := 3988292384
/-- A register goes one bit down. -/
def stepN (x : Nat) : Nat := if x % 2 = 1 then x / 2 ^^^ poly else x / 2
theorem xor_left_comm (a b c : Nat) : a ^^^ (b ^^^ c) = b ^^^ (a ^^^ c) := by rw [← Nat.xor_assoc, Nat.xor_comm a b, Nat.xor_assoc]
theorem xor_cancel (a b : Nat) : a ^^^ (a ^^^ b) = b := by rw [← Nat.xor_assoc, Nat.xor_self, Nat.zero_xor]
theorem xor_right_cancel (a b : Nat) : a ^^^ b ^^^ b = a := by rw [Nat.xor_assoc, Nat.xor_self, Nat.xor_zero]
theorem xor_zero_eq {a b : Nat} (h : a ^^^ b = 0) : a = b := by rw [← xor_right_cancel a b, h, Nat.zero_xor]
theorem step_xor (x y : Nat) : stepN (x ^^^ y) = stepN x ^^^ stepN y := by
  unfold stepN
  rw [Nat.xor_div_two]
  have h := @Nat.xor_mod_two_eq_one x y
  by_cases hx : x % 2 = 1 <;> by_cases hy : y % 2 = 1
  · rw [if_neg (by rw [h]; simp [hx, hy]), if_pos hx, if_pos hy, Nat.xor_assoc, xor_left_comm poly, Nat.xor_self, Nat.xor_zero]
  · rw [if_pos (by rw [h]; simp [hx, hy]), if_pos hx, if_neg hy, Nat.xor_assoc, Nat.xor_assoc, Nat.xor_comm poly]
  · rw [if_pos (by rw [h]; simp [hx, hy]), if_neg hx, if_pos hy, Nat.xor_assoc]
  · rw [if_neg (by rw [h]; simp [hx, hy]), if_neg hx, if_neg hy]
theorem step_lt {x : Nat} (h : x < 2 ^ 32) : stepN x < 2 ^ 32 := by
  unfold stepN
  split
  · exact Nat.xor_lt_two_pow (by omega) (by decide)
  · omega
theorem step_two (c : Nat) : stepN (2 * c) = c := by
  unfold stepN; rw [if_neg (by omega)]; omega
theorem step_nonzero {x : Nat} (h : x < 2 ^ 32) (h0 : x ≠ 0) : stepN x ≠ 0 := by
  unfold stepN
  split
  · intro e
    have e2 := xor_zero_eq e
    unfold poly at e2
    omega
  · omega
/-- .. n bits down. -/
def stepsN : Nat → Nat → Nat
  | 0, x => x
  | n + 1, x => stepsN n (stepN x)
theorem steps_add (a b x : Nat) : stepsN (a + b) x = stepsN b (stepsN a x) := by
  induction a generalizing x with
  | zero => rw [Nat.zero_add]; rfl
  | succ a ih => rw [Nat.succ_add]; exact ih (stepN x)
theorem steps_xor (n x y : Nat) : stepsN n (x ^^^ y) = stepsN n x ^^^ stepsN n y := by
  induction n generalizing x y with
  | zero => rfl
  | succ n ih => rw [stepsN, step_xor]; exact ih _ _
theorem steps_zero (n : Nat) : stepsN n 0 = 0 := by
  induction n with
  | zero => rfl
  | succ n ih => exact ih
theorem steps_lt (n : Nat) {x : Nat} (h : x < 2 ^ 32) : stepsN n x < 2 ^ 32 := by
  induction n generalizing x with
  | zero => exact h
  | succ n ih => exact ih (step_lt h)
theorem steps_nonzero (n : Nat) {x : Nat} (h : x < 2 ^ 32) (h0 : x ≠ 0) : stepsN n x ≠ 0 := by
  induction n generalizing x with
  | zero => exact h0
  | succ n ih => exact ih (step_lt h) (step_nonzero h h0)
theorem steps_pow (n r c : Nat) (h : r ≤ n) : stepsN n (2 ^ r * c) = stepsN (n - r) c := by
  induction r generalizing n with
  | zero => rw [Nat.pow_zero, Nat.one_mul, Nat.sub_zero]
  | succ r ih =>
    obtain ⟨m, rfl⟩ : ∃ m, n = m + 1 := ⟨n - 1, by omega⟩
    have e : 2 ^ (r + 1) * c = 2 * (2 ^ r * c) := by rw [Nat.pow_succ, Nat.mul_comm (2 ^ r) 2, Nat.mul_assoc]
    rw [stepsN, e, step_two, ih m (by omega), show m + 1 - (r + 1) = m - r by omega]
/-- A register that takes in a byte. -/
def takeN (x c : Nat) : Nat := stepsN 8 (x ^^^ c)
def regN (x : Nat) (xs : List Nat) : Nat := xs.foldl takeN x
theorem reg_append (x : Nat) (a b : List Nat) : regN x (a ++ b) = regN (regN x a) b := List.foldl_append ..
/-- Another beginning. -/
theorem reg_xor (x y : Nat) (xs : List Nat) : regN (x ^^^ y) xs = regN x xs ^^^ stepsN (8 * xs.length) y := by
  induction xs generalizing x y with
  | nil => rfl
  | cons c xs ih =>
    show regN (takeN (x ^^^ y) c) xs = regN (takeN x c) xs ^^^ _
    have e : takeN (x ^^^ y) c = takeN x c ^^^ stepsN 8 y := by
      rw [takeN, takeN, ← steps_xor, Nat.xor_assoc, Nat.xor_comm y c, ← Nat.xor_assoc]
    rw [e, ih, ← steps_add, List.length_cons]
    congr 2
    omega
/-- A byte turned. -/
theorem reg_set (x : Nat) (xs : List Nat) (q v e : Nat) (hq : xs[q]? = some v) : regN x (xs.set q (v ^^^ e)) = regN x xs ^^^ stepsN (8 * (xs.length - q)) e := by
  induction xs generalizing x q with
  | nil => cases hq
  | cons c xs ih =>
    cases q with
    | zero =>
      obtain rfl : c = v := by simpa using hq
      show regN (takeN x (c ^^^ e)) xs = regN (takeN x c) xs ^^^ _
      have e1 : takeN x (c ^^^ e) = takeN x c ^^^ stepsN 8 e := by rw [takeN, takeN, ← steps_xor, Nat.xor_assoc]
      rw [e1, reg_xor, ← steps_add, List.length_cons]
      congr 2
      omega
    | succ q =>
      show regN (takeN x c) (xs.set q (v ^^^ e)) = regN (takeN x c) xs ^^^ _
      rw [ih _ q (by simpa using hq), List.length_cons, show xs.length + 1 - (q + 1) = xs.length - q by omega]
def ones : Nat := 4294967295
def sumN (xs : List Nat) : Nat := regN ones xs ^^^ ones
def meetN (a b n : Nat) : Nat := stepsN (8 * n) a ^^^ b
theorem take_lt {x c : Nat} (h : x < 2 ^ 32) (hc : c < 256) : takeN x c < 2 ^ 32 := steps_lt 8 (Nat.xor_lt_two_pow h (by omega))
theorem reg_lt {x : Nat} {xs : List Nat} (h : x < 2 ^ 32) (hx : ∀ c ∈ xs, c < 256) : regN x xs < 2 ^ 32 := by
  induction xs generalizing x with
  | nil => exact h
  | cons c xs ih => exact ih (take_lt h (hx c (by simp))) (fun d hd => hx d (by simp [hd]))
theorem sum_lt {xs : List Nat} (hx : ∀ c ∈ xs, c < 256) : sumN xs < 2 ^ 32 := Nat.xor_lt_two_pow (reg_lt (by decide) hx) (by decide)
theorem sum_append (a b : List Nat) : sumN (a ++ b) = meetN (sumN a) (sumN b) b.length := by
  have h := reg_xor ones (sumN a) b
  have e : ones ^^^ sumN a = regN ones a := by rw [sumN, Nat.xor_comm (regN ones a), xor_cancel]
  rw [e] at h
  rw [sumN, reg_append, h, meetN, sumN, sumN, Nat.xor_assoc, Nat.xor_comm (stepsN _ _), ← Nat.xor_assoc, ← sumN, Nat.xor_comm]
/-- Sums of parts that do not meet are xors. -/
theorem xor_add {i c : Nat} (a : Nat) (h : c < 2 ^ i) : c ^^^ 2 ^ i * a = c + 2 ^ i * a := by
  have h1 : (c ^^^ 2 ^ i * a) / 2 ^ i = a := by rw [Nat.xor_div_two_pow, Nat.div_eq_of_lt h, Nat.mul_div_cancel_left _ (Nat.two_pow_pos i), Nat.zero_xor]
  have h2 : (c ^^^ 2 ^ i * a) % 2 ^ i = c := by rw [Nat.xor_mod_two_pow, Nat.mod_eq_of_lt h, Nat.mul_mod_right, Nat.xor_zero]
  have h3 := Nat.mod_add_div (c ^^^ 2 ^ i * a) (2 ^ i)
  rw [h1, h2] at h3
  exact h3.symm
/-- Four bytes, the lowest first. -/
def le4 (v : Nat) : List Nat := [v % 256, v / 256 % 256, v / 65536 % 256, v / 16777216 % 256]
theorem le4_all (v : Nat) : ∀ c ∈ le4 v, c < 256 := by
  intro c hc
  simp only [le4, List.mem_cons, List.not_mem_nil, or_false] at hc
  rcases hc with rfl | rfl | rfl | rfl <;> exact Nat.mod_lt _ (by decide)
theorem le4_inj {v u : Nat} (hv : v < 2 ^ 32) (hu : u < 2 ^ 32) (h : le4 v = le4 u) : v = u := by
  simp only [le4, List.cons.injEq, and_true] at h
  omega
theorem le4_of {l : List Nat} (hl : l.length = 4) (h : ∀ c ∈ l, c < 256) : ∃ v, v < 2 ^ 32 ∧ l = le4 v := by
  match l, hl with
  | [a, b, c, d], _ =>
    have ha := h a (by simp)
    have hb := h b (by simp)
    have hc := h c (by simp)
    have hd := h d (by simp)
    refine ⟨a + 256 * b + 65536 * c + 16777216 * d, by omega, ?_⟩
    simp only [le4, List.cons.injEq, and_true]
    omega
theorem reg_le4 (x v : Nat) (hv : v < 2 ^ 32) : regN x (le4 v) = stepsN 32 (x ^^^ v) := by
  have e8 : ∀ c, stepsN 8 (2 ^ 8 * c) = c := fun c => steps_pow 8 8 c (Nat.le_refl _)
  show takeN (takeN (takeN (takeN x (v % 256)) (v / 256 % 256)) (v / 65536 % 256)) (v / 16777216 % 256) = _
  have h1 : ∀ y c d : Nat, takeN (takeN y c) d = stepsN 16 (y ^^^ c ^^^ 2 ^ 8 * d) := fun y c d => by
    have e : stepsN 8 (y ^^^ c) ^^^ d = stepsN 8 (y ^^^ c ^^^ 2 ^ 8 * d) := by rw [steps_xor 8 (y ^^^ c) (2 ^ 8 * d), e8 d]
    rw [takeN, takeN, e, ← steps_add]
  rw [h1, h1]
  have e16 : stepsN 16 (x ^^^ v % 256 ^^^ 2 ^ 8 * (v / 256 % 256)) ^^^ v / 65536 % 256 ^^^ 2 ^ 8 * (v / 16777216 % 256) = stepsN 16 (x ^^^ v) := by
    have e3 : v = v % 65536 ^^^ 2 ^ 16 * (v / 65536) := by rw [xor_add _ (by omega)]; omega
    have e4 : v % 65536 = v % 256 ^^^ 2 ^ 8 * (v / 256 % 256) := by rw [xor_add _ (by omega)]; omega
    have e5 : v / 65536 = v / 65536 % 256 ^^^ 2 ^ 8 * (v / 16777216 % 256) := by rw [xor_add _ (by omega)]; omega
    have e6 : stepsN 16 (2 ^ 16 * (v / 65536)) = v / 65536 := steps_pow 16 16 _ (Nat.le_refl _)
    have e7 : stepsN 16 (x ^^^ v) = stepsN 16 (x ^^^ v % 65536) ^^^ v / 65536 := by
      conv => lhs; rw [e3, ← Nat.xor_assoc, steps_xor, e6]
    rw [e7, e4, ← Nat.xor_assoc x]
    conv => rhs; rw [e5]
    rw [Nat.xor_assoc (stepsN 16 _)]
  rw [e16, ← steps_add]
/-- Sealed. -/
def sealN (xs : List Nat) : List Nat := xs ++ le4 (sumN xs)
theorem seal_length (xs : List Nat) : (sealN xs).length = xs.length + 4 := by simp [sealN, le4]
def frontN (xs : List Nat) : List Nat := xs.take (xs.length - 4)
def openErr (xs : List Nat) : Nat := if xs.length < 4 then 4 else if sealN (frontN xs) = xs then 0 else 20
def openVal (xs : List Nat) : List Nat := if openErr xs = 0 then frontN xs else []
def rightN : Nat := stepsN 32 ones
theorem front_seal (xs : List Nat) : frontN (sealN xs) = xs := by
  rw [frontN, seal_length, Nat.add_sub_cancel, sealN, List.take_left]
theorem open_seal (xs : List Nat) : openErr (sealN xs) = 0 ∧ openVal (sealN xs) = xs := by
  have h : openErr (sealN xs) = 0 := by rw [openErr, if_neg (by rw [seal_length]; omega), front_seal, if_pos rfl]
  exact ⟨h, by rw [openVal, if_pos h, front_seal]⟩
/-- What is right, by its register. -/
theorem open_right (xs : List Nat) (hl : 4 ≤ xs.length) (hx : ∀ c ∈ xs, c < 256) : openErr xs = 0 ↔ regN ones xs = rightN := by
  have hsp : frontN xs ++ xs.drop (xs.length - 4) = xs := List.take_append_drop _ _
  obtain ⟨v, hv, hle⟩ := le4_of (l := xs.drop (xs.length - 4)) (by rw [List.length_drop]; omega) (fun c hc => hx c (List.mem_of_mem_drop hc))
  have hf : ∀ c ∈ frontN xs, c < 256 := fun c hc => hx c (List.mem_of_mem_take hc)
  have hreg : regN ones xs = stepsN 32 (regN ones (frontN xs) ^^^ v) := by
    conv => lhs; rw [← hsp, hle, reg_append, reg_le4 _ _ hv]
  have hiff : sealN (frontN xs) = xs ↔ sumN (frontN xs) = v := by
    rw [sealN]
    constructor
    · intro h
      have h2 : frontN xs ++ le4 (sumN (frontN xs)) = frontN xs ++ le4 v := by rw [h, ← hle, hsp]
      exact le4_inj (sum_lt hf) hv (List.append_cancel_left h2)
    · intro h
      rw [h, ← hle, hsp]
  rw [openErr, if_neg (by omega)]
  constructor
  · intro h
    have h1 : sealN (frontN xs) = xs := by
      by_cases h1 : sealN (frontN xs) = xs
      · exact h1
      · rw [if_neg h1] at h; cases h
    have h2 := hiff.1 h1
    rw [hreg, ← h2, sumN, xor_cancel]; rfl
  · intro h
    rw [hreg, rightN] at h
    have h1 : stepsN 32 (regN ones (frontN xs) ^^^ v ^^^ ones) = 0 := by rw [steps_xor, h, Nat.xor_self]
    have h2 : regN ones (frontN xs) ^^^ v ^^^ ones = 0 := by
      rcases Nat.eq_zero_or_pos (regN ones (frontN xs) ^^^ v ^^^ ones) with h2 | h2
      · exact h2
      · exact absurd h1 (steps_nonzero 32 (Nat.xor_lt_two_pow (Nat.xor_lt_two_pow (reg_lt (by decide) hf) hv) (by decide)) (by omega))
    have h3 : sumN (frontN xs) = v := by
      rw [sumN]
      apply xor_zero_eq
      rw [← h2]
      ac_rfl
    rw [if_pos (hiff.2 h3)]
theorem open_cases (xs : List Nat) : openErr xs = 4 ∨ openErr xs = 0 ∨ openErr xs = 20 := by
  unfold openErr
  split
  · exact Or.inl rfl
  · split
    · exact Or.inr (Or.inl rfl)
    · exact Or.inr (Or.inr rfl)
/-- Bits turned, one by one. -/
def flipN (s : List Nat) (bit turn : Nat) : Nat → List Nat
  | 0 => s
  | i + 1 => (flipN s bit turn i).set ((bit + i) / 8) ((flipN s bit turn i).getD ((bit + i) / 8) 0 ^^^ turn / 2 ^ i % 2 * 2 ^ ((bit + i) % 8))
theorem flip_length (s : List Nat) (bit turn i : Nat) : (flipN s bit turn i).length = s.length := by
  induction i with
  | zero => rfl
  | succ i ih => rw [flipN, List.length_set, ih]
theorem bit_lt (t r : Nat) (h : r < 8) : t % 2 * 2 ^ r < 256 := by
  have h1 : t % 2 < 2 := Nat.mod_lt _ (by decide)
  have h2 : 2 ^ r ≤ 2 ^ 7 := Nat.pow_le_pow_right (by decide) (by omega)
  have h3 : t % 2 * 2 ^ r ≤ 1 * 2 ^ 7 := Nat.mul_le_mul (by omega) h2
  omega
theorem getD_lt {s : List Nat} (h : ∀ c ∈ s, c < 256) (q : Nat) : s.getD q 0 < 256 := by
  rw [List.getD_eq_getElem?_getD]
  cases e : s[q]? with
  | none => exact (by decide : 0 < 256)
  | some x => exact h x (List.mem_of_getElem? e)
theorem flip_all (s : List Nat) (bit turn i : Nat) (h : ∀ c ∈ s, c < 256) : ∀ c ∈ flipN s bit turn i, c < 256 := by
  induction i with
  | zero => exact h
  | succ i ih =>
    intro c hc
    rw [flipN] at hc
    rcases List.mem_or_eq_of_mem_set hc with h1 | h1
    · exact ih c h1
    · rw [h1]
      exact Nat.xor_lt_two_pow (n := 8) (getD_lt ih _) (bit_lt _ _ (Nat.mod_lt _ (by decide)))
theorem flip_none (s : List Nat) (bit i : Nat) : flipN s bit 0 i = s := by
  induction i with
  | zero => rfl
  | succ i ih =>
    rw [flipN, ih, Nat.zero_div, Nat.zero_mod, Nat.zero_mul, Nat.xor_zero]
    apply List.ext_getElem?
    intro j
    rw [List.getElem?_set]
    split
    · rename_i e
      subst e
      split
      · rename_i h
        rw [List.getD_eq_getElem?_getD, List.getElem?_eq_getElem h]; rfl
      · rename_i h
        rw [List.getElem?_eq_none (by omega)]
    · rfl
theorem flip_reg (x : Nat) (s : List Nat) (bit turn i : Nat) (hb : bit + i ≤ 8 * s.length) : regN x (flipN s bit turn i) = regN x s ^^^ stepsN (8 * s.length - bit) (turn % 2 ^ i) := by
  induction i with
  | zero => rw [flipN, Nat.pow_zero, Nat.mod_one, steps_zero, Nat.xor_zero]
  | succ i ih =>
    have hq : (bit + i) / 8 < (flipN s bit turn i).length := by rw [flip_length]; omega
    have hget : (flipN s bit turn i)[(bit + i) / 8]? = some ((flipN s bit turn i).getD ((bit + i) / 8) 0) := by
      rw [List.getD_eq_getElem?_getD, List.getElem?_eq_getElem hq]; rfl
    rw [flipN, reg_set _ _ _ _ _ hget, ih (by omega), flip_length, Nat.xor_assoc]
    congr 1
    have e1 : turn % 2 ^ (i + 1) = turn % 2 ^ i ^^^ 2 ^ i * (turn / 2 ^ i % 2) := by
      rw [xor_add _ (Nat.mod_lt _ (Nat.two_pow_pos i)), Nat.pow_succ, Nat.mod_mul]
    rw [e1, steps_xor, steps_pow _ i _ (by omega), Nat.mul_comm (turn / 2 ^ i % 2), steps_pow _ _ _ (by omega)]
    congr 2
    omega
/-- THE STAGE'S THEOREM, plainly: bits turned within 32 in a row are found. -/
theorem finds (b : List Nat) (bit turn : Nat) (hb : ∀ c ∈ b, c < 256) (ht : turn < 2 ^ 32) (h0 : turn ≠ 0) (hbit : bit + 32 ≤ 8 * (b.length + 4)) : openErr (flipN (sealN b) bit turn 32) = 20 := by
  have hs : ∀ c ∈ sealN b, c < 256 := fun c hc => by
    rcases List.mem_append.1 hc with h | h
    · exact hb c h
    · exact le4_all _ c h
  have hl : (sealN b).length = b.length + 4 := seal_length b
  have hr := (open_right (sealN b) (by omega) hs).1 (open_seal b).1
  have hf := flip_reg ones (sealN b) bit turn 32 (by omega)
  rw [hr, Nat.mod_eq_of_lt ht] at hf
  have hne : openErr (flipN (sealN b) bit turn 32) ≠ 0 := by
    intro h
    rw [open_right _ (by rw [flip_length]; omega) (flip_all _ _ _ _ hs), hf] at h
    have : stepsN (8 * (sealN b).length - bit) turn = 0 := by
      rw [← xor_cancel rightN (stepsN _ _), h, Nat.xor_self]
    exact steps_nonzero _ ht h0 this
  rcases open_cases (flipN (sealN b) bit turn 32) with h | h | h
  · unfold openErr at h
    rw [flip_length] at h
    rw [if_neg (by omega)] at h
    split at h <;> cases h
  · exact absurd h hne
  · exact h
/-- Steps, a table's way: what falls out by itself, the rest goes down. -/
theorem steps_low (n x : Nat) : stepsN n x = x / 2 ^ n ^^^ stepsN n (x % 2 ^ n) := by
  have e : x = x % 2 ^ n ^^^ 2 ^ n * (x / 2 ^ n) := by rw [xor_add _ (Nat.mod_lt _ (Nat.two_pow_pos n)), Nat.mod_add_div]
  have h : stepsN n (x % 2 ^ n ^^^ 2 ^ n * (x / 2 ^ n)) = stepsN n (x % 2 ^ n) ^^^ x / 2 ^ n := by rw [steps_xor, steps_pow n n _ (Nat.le_refl _), Nat.sub_self]; rfl
  rw [← e] at h
  rw [h, Nat.xor_comm]
end Go.Proofs.YtifopodnceopjaaGreatDoor.Crc
/- A region that draws its order, walked by hand: what is held may grow on the way. -/
namespace Go.Proofs.YtifopodnceopjaaGreatDoor

section
variable {P : Program} {ops : Array Oper} {Q : Exit → Act → World → Prop} {md : Region.Mode} {S S' : World → Prop}
/-- What is held of the world may grow on the way. -/
theorem wpAnyH_strong (hss : ∀ w, S' w → S w) : ∀ (fuel : Nat) (listed : Array Bool) (a : Act) (w : World), wpAnyH P md ops Q S' fuel listed a w → wpAnyH P md ops Q S fuel listed a w
  | 0, _, _, _, h => h
  | fuel + 1, _, _, _, h => ⟨h.1, fun i hi => wpOp_mono (fun a' w' h' => ⟨hss w' h'.1, wpAnyH_strong hss fuel _ a' w' h'.2⟩) (h.2 i hi)⟩
end
end Go.Proofs.YtifopodnceopjaaGreatDoor
/- Arguments opened: slices of bytes, slices of slices of bytes. -/
namespace Go.Proofs.YtifopodnceopjaaGreatDoor
open Go.RowKit Go.ChangeShapes Go.WideShapes Go.Deep

/-- A slice of bytes as a value, and what it holds. -/
structure RowV where
  A : Option Addr
  n : Nat
  c : Nat
  xs : List Nat
def RowV.val (r : RowV) : Value := .slice r.A r.n r.c
/-- A slice of n slices of bytes at A, below block B. -/
def RowsAt (w : World) (B : Nat) (A : Option Addr) (n : Nat) (rs : List RowV) : Prop :=
  rs.length = n ∧ (∀ r ∈ rs, Bytes w B r.A r.n r.xs ∧ r.n ≤ 140737488351232 ∧ r.n ≤ r.c) ∧ (0 < n → ∃ b off, A = some ⟨b, off, none⟩ ∧ b < B ∧ ∀ i r, rs[i]? = some r → w.cell? ⟨b, off + i, none⟩ = some (.slice r.A r.n r.c))
theorem RowsAt.below {w w' : World} {B n : Nat} {A : Option Addr} {rs : List RowV} (h : RowsAt w B A n rs) (k : Below B w w') : RowsAt w' B A n rs :=
  ⟨h.1, fun r hr => ⟨(h.2.1 r hr).1.below k, (h.2.1 r hr).2⟩, fun hn => by
    obtain ⟨b, off, e, hb, hc⟩ := h.2.2 hn
    exact ⟨b, off, e, hb, fun i r hi => (k.cell (p := ⟨b, off + i, none⟩) hb).trans (hc i r hi)⟩⟩
theorem RowsAt.keep {w w' : World} {B n : Nat} {A : Option Addr} {rs : List RowV} (h : RowsAt w B A n rs) (hB : B ≤ w.heap.size) (k : Keep w w') : RowsAt w' B A n rs := h.below (Below.mono k hB)
theorem RowsAt.at_ {w : World} {B n : Nat} {A : Option Addr} {rs : List RowV} (h : RowsAt w B A n rs) {k : Nat} (hk : k < n) :
    ∃ b off r, A = some ⟨b, off, none⟩ ∧ b < B ∧ rs[k]? = some r ∧ w.cell? ⟨b, off + k, none⟩ = some (.slice r.A r.n r.c) ∧ Bytes w B r.A r.n r.xs ∧ r.n ≤ 140737488351232 ∧ r.n ≤ r.c := by
  obtain ⟨b, off, e, hb, hc⟩ := h.2.2 (by omega)
  have hl : k < rs.length := by rw [h.1]; exact hk
  have hr := List.getElem?_eq_getElem hl
  have hm := h.2.1 _ (List.getElem_mem hl)
  exact ⟨b, off, rs[k], e, hb, hr, hc k _ hr, hm.1, hm.2⟩
def rowsOf (rs : List RowV) : List (List Nat) := rs.map (·.xs)
theorem rowsOf_getD {rs : List RowV} {k : Nat} {r : RowV} (h : rs[k]? = some r) : (rowsOf rs).getD k [] = r.xs := by
  rw [rowsOf, List.getD_eq_getElem?_getD, List.getElem?_map, h]; rfl

theorem RowsAt.alloc {w : World} {B n : Nat} {A : Option Addr} {rs : List RowV} (h : RowsAt w B A n rs) (hB : B ≤ w.heap.size) (o : Obj) : RowsAt (w.alloc o) B A n rs := h.below (Below.alloc (Below.refl _ _) hB o)
/-- A literal of slices, its place said. -/
theorem RowsAt.lit {w : World} {h : Nat} (hh : w.heap.size = h) (t : TypeId) (n : Nat) (rs : List RowV) (cs : Array Value) (hc : cs = (rs.map RowV.val).toArray) (hl : rs.length = n) (hr : ∀ r ∈ rs, Bytes w h r.A r.n r.xs ∧ r.n ≤ 140737488351232 ∧ r.n ≤ r.c) :
    RowsAt (w.alloc (.cells cs t)) (h + 1) (some ⟨h, 0, none⟩) n rs := by
  subst hh
  refine ⟨hl, fun r h1 => ⟨((hr r h1).1.alloc (Nat.le_refl _) _).mono (by omega), (hr r h1).2⟩, fun _ => ⟨_, 0, rfl, by omega, fun i r hi => ?_⟩⟩
  rw [cell_of_row _ _ _ _ _ _ (heap_alloc_new w _), hc, Nat.zero_add]
  simp [hi, RowV.val]

section
variable {H : Type} {enc : TypeId × Value → H} {P : Program} {W : World}

theorem nats_of {zs : List Int} (h : ∀ n ∈ zs, (Lit.int .u8 n).wf = true) : ∃ xs : List Nat, zs = xs.map (fun x : Nat => (x : Int)) ∧ AllB xs := by
  refine ⟨zs.map Int.toNat, ?_, ?_⟩
  · rw [List.map_map]
    have : ∀ n ∈ zs, ((fun x : Nat => (x : Int)) ∘ Int.toNat) n = n := fun n hn => by
      have := bounds_u8 (h n hn)
      simp; omega
    rw [List.map_congr_left this, List.map_id']
  · intro x hx
    obtain ⟨n, hn, rfl⟩ := List.mem_map.1 hx
    have := bounds_u8 (h n hn)
    omega
/-- A reading of a slice of bytes. -/
theorem bytes_of {t e : TypeId} (ht : P.underlying t = some (.slice e)) (he : P.underlying e = some (.int .u8)) (hc : P.cellsOf e = 1) (hb : P.bytesOf e = 1)
    {v : Value} {d : DataW H} {p : List MemPlace} {fuel : Nat} (h : DataW.trod enc P W 0 (fun _ => true) true fuel t [v] = some (d, p)) (hs : ∀ n ∈ d.weights P t, n ≤ reachBytes) :
    ∃ (A : Option Addr) (n c : Nat) (xs : List Nat), v = .slice A n c ∧ Bytes W W.heap.size A n xs ∧ n ≤ 140737488351232 ∧ n ≤ c := by
  rcases open_ints ht he hc h with ⟨hcs, _⟩ | ⟨a, len, cap, zs, hcs, _, hl, hm, hz, hx, hcell, hwz⟩
  · simp at hcs
    exact ⟨none, 0, 0, [], hcs, Bytes.nil _ _ _, by omega, by omega⟩
  · simp at hcs
    have hz' : zs.length = cap := by simpa using hz
    simp only [Prod.mk.injEq] at hx
    obtain ⟨hd, _⟩ := hx
    have hsz : cap * 1 ≤ reachBytes := by
      have h1 := hs (((lits .u8 (zs.take len) : List (DataW H)).length + (lits .u8 (zs.drop len) : List (DataW H)).length) * P.bytesOf e) (by rw [hd]; simp [DataW.weights, ht])
      rw [hb] at h1
      simp only [lits, List.length_map, List.length_take, List.length_drop] at h1
      omega
    have hr : reachBytes = 140737488351232 := by decide
    obtain ⟨xs, hxs, hall⟩ := nats_of hwz
    have hlen : xs.length = cap := by rw [← hz', hxs, List.length_map]
    refine ⟨some a, len, cap, xs.take len, hcs, ⟨by rw [List.length_take]; omega, hall.take len, fun hn => ?_⟩, by omega, hl⟩
    obtain ⟨b, off, spot⟩ := a
    have h0 := hcell 0 (by omega)
    have hspot : spot = none := by simpa [Addr.add] using World.cell?_spot h0
    subst hspot
    refine ⟨b, off, rfl, World.block_lt_of_cell? W _ (show W.cell? ⟨b, off, none⟩ = _ by simpa [Addr.add] using h0), fun i hi => ?_⟩
    have h1 := hcell i (by omega)
    have ha : (⟨b, off, none⟩ : Addr).add i = ⟨b, off + i, none⟩ := by unfold Addr.add; split <;> simp_all
    rw [ha] at h1
    rw [h1, hxs]
    have hi2 : i < xs.length := by omega
    simp [List.getD, hi2, hi]
theorem weights_all {e : TypeId} : ∀ {ds : List (DataW H)} {d : DataW H}, d ∈ ds → ∀ n ∈ d.weights P e, n ∈ DataW.weightsAll P e ds
  | d0 :: ds, d, hd, n, hn => by
    rw [DataW.weightsAll, List.mem_append]
    rcases List.mem_cons.1 hd with h | h
    · subst h; exact Or.inl hn
    · exact Or.inr (weights_all h n hn)
/-- An argument that is a slice of bytes. -/
theorem arg_bytes {t e : TypeId} (ht : P.underlying t = some (.slice e)) (he : P.underlying e = some (.int .u8)) (hc : P.cellsOf e = 1) (hb : P.bytesOf e = 1)
    {ts : List TypeId} {ds : List (DataW H)} (hsz : (DataW.weightsEach P ts ds).all (· ≤ reachBytes) = true) {j : Nat} (hj : ts[j]? = some t) {v : Value} {d : DataW H} {p : List MemPlace} (hd : ds[j]? = some d)
    {base : Nat} (hv : Value.okWide P W .any base t v) (h : DataW.Trod enc P W 0 (fun _ => true) true t v d p) : ∃ (A : Option Addr) (n c : Nat) (xs : List Nat), v = .slice A n c ∧ Bytes W W.heap.size A n xs ∧ n ≤ 140737488351232 ∧ n ≤ c := by
  obtain ⟨A, n, c, rfl⟩ := okWide_slice ht hv
  obtain ⟨fuel, hf⟩ := h
  exact bytes_of ht he hc hb (fuel := fuel) (by simpa [Value.cells] using hf) fun n hn => by
    have := List.all_eq_true.1 hsz n (DataW.weights_mem_each hj hd n hn)
    simpa using this
end
end Go.Proofs.YtifopodnceopjaaGreatDoor
/- Contracts of the document's own answers of layer 4. -/
namespace Go.Proofs.YtifopodnceopjaaGreatDoor
set_option linter.unusedVariables false
set_option linter.unusedSimpArgs false
open Go.RowKit Crc
/-- u32's xor, in numbers. -/
theorem xor32 (x y : Nat) (hx : x < 4294967296) (hy : y < 4294967296) : bits .xor .u32 (x : Int) (y : Int) = ((x ^^^ y : Nat) : Int) := u32_xor_nat x y hx hy
end Go.Proofs.YtifopodnceopjaaGreatDoor
/- Numbers' forms to the base 256, as lists of numbers. -/
namespace Go.Proofs.YtifopodnceopjaaGreatDoor

/-- The s lowest digits of n, the highest first. -/
def formN (s n : Nat) : List Nat := (List.range s).map fun i => n / 256 ^ (s - 1 - i) % 256
theorem formN_length (s n : Nat) : (formN s n).length = s := by simp [formN]
theorem formN_all (s n : Nat) : AllB (formN s n) := fun x hx => by
  obtain ⟨i, _, rfl⟩ := List.mem_map.1 hx
  exact Nat.mod_lt _ (by decide)
/-- The last digit, and those ahead of it. -/
theorem formN_succ (s n : Nat) : formN (s + 1) n = formN s (n / 256) ++ [n % 256] := by
  apply List.ext_getElem?
  intro i
  rcases Nat.lt_trichotomy i s with h | h | h
  · rw [List.getElem?_append_left (by rw [formN_length]; exact h)]
    simp only [formN, List.getElem?_map, List.getElem?_range (show i < s + 1 by omega), List.getElem?_range h, Option.map_some]
    congr 1
    rw [Nat.div_div_eq_div_mul, show s + 1 - 1 - i = (s - 1 - i) + 1 by omega, Nat.pow_succ, Nat.mul_comm]
  · subst h
    rw [List.getElem?_append_right (by rw [formN_length]; exact Nat.le_refl _), formN_length]
    simp [formN]
  · rw [List.getElem?_eq_none (by rw [formN_length]; omega), List.getElem?_eq_none (by rw [List.length_append, formN_length]; simp; omega)]
/-- What digits say. -/
def valN (l : List Nat) : Nat := l.foldl (fun a x => 256 * a + x) 0
theorem valN_snoc (l : List Nat) (x : Nat) : valN (l ++ [x]) = 256 * valN l + x := by simp [valN]
theorem valN_form (s n : Nat) : valN (formN s n) = n % 256 ^ s := by
  induction s generalizing n with
  | zero => simp [formN, valN, Nat.mod_one]
  | succ s ih =>
    rw [formN_succ, valN_snoc, ih, Nat.pow_succ, Nat.mul_comm (256 ^ s) 256, Nat.mod_mul]
    omega
theorem list_snoc {P : List Nat → Prop} (h0 : P []) (hs : ∀ l x, P l → P (l ++ [x])) (l : List Nat) : P l := by
  rw [← List.reverse_reverse l]
  induction l.reverse with
  | nil => simpa using h0
  | cons x t ih => rw [List.reverse_cons]; exact hs _ _ ih
theorem valN_lt (l : List Nat) : AllB l → valN l < 256 ^ l.length := by
  induction l using list_snoc with
  | h0 => simp [valN]
  | hs l x ih =>
    intro h
    rw [valN_snoc, List.length_append, List.length_singleton, Nat.pow_succ]
    have h1 := ih fun y hy => h y (by simp [hy])
    have h2 := h x (by simp)
    omega
theorem valN_take_succ (l : List Nat) (i : Nat) (hi : i < l.length) : valN (l.take (i + 1)) = 256 * valN (l.take i) + l.getD i 0 := by
  rw [List.take_add_one, List.getElem?_eq_getElem hi]
  simp only [Option.toList_some, valN_snoc]
  rw [List.getD_eq_getElem?_getD, List.getElem?_eq_getElem hi]; rfl
/-- The form while it is laid from behind: its last j digits, noughts ahead. -/
def laidN (s n j : Nat) : List Nat := (List.range s).map fun i => if s - j ≤ i then n / 256 ^ (s - 1 - i) % 256 else 0
theorem laidN_length (s n j : Nat) : (laidN s n j).length = s := by simp [laidN]
theorem laidN_zero (s n : Nat) : laidN s n 0 = List.replicate s 0 := by
  apply List.ext_getElem?
  intro i
  rcases Nat.lt_or_ge i s with h | h
  · simp only [laidN, List.getElem?_map, List.getElem?_range h, Option.map_some, List.getElem?_replicate, if_pos h]
    rw [if_neg (by omega)]
  · rw [List.getElem?_eq_none (by rw [laidN_length]; omega), List.getElem?_eq_none (by simp; omega)]
theorem laidN_all (s n : Nat) : laidN s n s = formN s n := by
  simp only [laidN, formN]
  refine List.map_congr_left fun i hi => ?_
  rw [if_pos (by omega)]
theorem laidN_set (s n j : Nat) (hj : j < s) : (laidN s n j).set (s - 1 - j) (n / 256 ^ j % 256) = laidN s n (j + 1) := by
  apply List.ext_getElem?
  intro i
  rw [List.getElem?_set, laidN_length]
  rcases Nat.lt_or_ge i s with h | h
  · simp only [laidN, List.getElem?_map, List.getElem?_range h, Option.map_some]
    by_cases e : s - 1 - j = i
    · rw [if_pos e, if_pos (by omega), if_pos (by omega), show s - 1 - i = j by omega]
    · rw [if_neg e]
      by_cases h1 : s - j ≤ i
      · rw [if_pos h1, if_pos (by omega)]
      · rw [if_neg h1, if_neg (by omega)]
  · rw [if_neg (by omega)]
    simp [laidN, h]
theorem set_append_right (xs ys : List Nat) (i v : Nat) : (xs ++ ys).set (xs.length + i) v = xs ++ ys.set i v := by
  rw [List.set_append_right _ _ (by omega), Nat.add_sub_cancel_left]
end Go.Proofs.YtifopodnceopjaaGreatDoor
/- Slices cut at their heads; numbers' sizes. -/
namespace Go.Proofs.YtifopodnceopjaaGreatDoor
open Go.RowKit
/-- What laying a number answers. -/
def laysOf (xs : List Nat) (v s : Nat) : List Nat := if v < 256 ^ s then xs ++ formN s v else []
def laysErr (v s : Nat) : Int := if v < 256 ^ s then 0 else 3
theorem own_le {w : World} {base n c : Nat} {e : TypeId} {A : Option Addr} {xs : List Nat} (h : Own w base e A n c xs) : n ≤ c := by
  rcases h.1.2 with ⟨hv, h0⟩ | ⟨g, cap, cur, hv, _, _, hle, _⟩
  · omega
  · injection hv with _ _ h3; omega
/-- The address of a slice cut at its head. -/
def cutA (A : Option Addr) (c s : Nat) : Option Addr := if c = s then A else A.map (·.add s)
theorem run_cut (n c s : Nat) (A : Option Addr) (hs : s ≤ n) (w : World) :
    (Instr.slice 22 (.slice A n c) (some (.int .i64 (s : Int))) none none).run Tryz.prog w = .ok (.slice (cutA A c s) (n - s) (c - s)) w := by
  have ht : Tryz.prog.underlying 22 = some (.slice (Tryz.prog.elem 22)) := by kernel_rfl
  obtain ⟨i0, hi0, hz0, hz1, hz2⟩ := info_parts info5
  have he : Tryz.prog.elem 22 = 5 := by kernel_rfl
  rw [run_slice_l (P := Tryz.prog) (w := w) 22 A n c ht .i64 s (by omega) (by omega), he]
  simp [sizeOf, typeInfo, hi0, hz1, sliced, cutA]
theorem Bytes.drop {w : World} {B n c s : Nat} {A : Option Addr} {xs : List Nat} (h : Bytes w B A n xs) (hc : n ≤ c) : Bytes w B (cutA A c s) (n - s) (xs.drop s) := by
  refine ⟨by rw [List.length_drop, h.1], fun x hx => h.2.1 x (List.mem_of_mem_drop hx), fun hp => ?_⟩
  obtain ⟨b, off, rfl, hb, hcell⟩ := h.2.2 (by omega)
  refine ⟨b, off + s, ?_, hb, fun i hi => ?_⟩
  · rw [cutA, if_neg (by omega)]
    simp only [Option.map_some, Addr.add]
    split <;> simp_all
  · rw [Nat.add_assoc, hcell (s + i) (by omega)]
    simp [List.getD_eq_getElem?_getD, List.getElem?_drop]
theorem valN_lt64 (L : List Nat) (s : Nat) (h : AllB L) (hs : s ≤ 8) : valN (L.take s) < 18446744073709551616 := by
  have h1 := valN_lt (L.take s) (h.take s)
  have h2 : 256 ^ (L.take s).length ≤ 256 ^ 8 := Nat.pow_le_pow_right (by decide) (by rw [List.length_take]; omega)
  exact Nat.lt_of_lt_of_le h1 h2
end Go.Proofs.YtifopodnceopjaaGreatDoor
/- The library's slices.Clone, Grow and Concat at bytes. -/
namespace Go.Proofs.YtifopodnceopjaaGreatDoor
open Go.RowKit
set_option maxRecDepth 100000 in
theorem clone_any (B n c : Nat) (A : Option Addr) (xs : List Nat) (w : World) (h : Bytes w B A n xs) (hB : B ≤ w.heap.size) (hn : n ≤ 140737488355328) :
    Calls Tryz.prog 82 #[.slice A n c] w (NewBytes w xs) := by
  cases A with
  | none =>
    have h0 : n = 0 := by
      rcases Nat.eq_zero_or_pos n with e | e
      · exact e
      · obtain ⟨b, off, e, _⟩ := h.2.2 e; cases e
    subst h0
    have hx : xs = [] := List.eq_nil_of_length_eq_zero h.1
    subst hx
    have hq := fun (w : World) => Lib.run_eql_slice_nil (P := Tryz.prog) w 22 5 none 0 c 0 0 Tryz.underlying22
    clear h
    go_enter Tryz.func82, Tryz.ntmps82
    go_wp2_with fail
    go_ret
    exact ⟨none, 0, 0, rfl, Own.none_ _ _ _, Keep.refl _⟩
  | some ad =>
    have hq := fun (w : World) => Lib.run_eql_slice_nil (P := Tryz.prog) w 22 5 (some ad) n c 0 0 Tryz.underlying22
    have HO := Own.lit w 5 0 [] #[] rfl rfl (by omega) (by decide)
    have HB := Lib.hid (h.alloc hB (.cells #[] 5))
    clear h
    go_enter Tryz.func82, Tryz.ntmps82
    go_wp2_with (at_builtin; refine wpList_append_bytes rfl _ _ 22 rfl Tryz.underlying22 info5 rfl HO rfl HB.out ?c1 ?c2 ?_)
    case c1 => omega
    case c2 => simp
    intro A' c' w' hown hgr _
    have hk : Keep w w' := ((Keep.refl w).alloc #[] 5).grown hgr (fun k hk => by cases hk; exact Nat.le_refl _)
    go_wp2_with fail
    go_ret
    exact ⟨A', _, c', rfl, by simpa using hown, hk⟩
/-- append(nil, make([]byte, n)...), as the translation has it. -/
theorem run_append_zeros_nil {P : Program} {t u e : TypeId} (ht : P.underlying t = some (.slice e)) {k : IntKind} (hu : P.underlying u = some (.int k))
    (hi : (P.info? e).map (fun i => (i.zero, i.size, i.bytes)) = some (some (.int .u8 0), 1, 1)) (n : Nat) (h0 : 0 < n) (hn : n ≤ 140737488355328) (w : World) (ty : TypeId) :
    ∃ c w', (Builtin.append_ #[t, u] ty #[.slice none 0 0, .int .i64 (n : Int)]).run P w = .ok (.slice (some ⟨w.heap.size, 0, none⟩) n c) w' ∧ Own w' w.heap.size e (some ⟨w.heap.size, 0, none⟩) n c (List.replicate n 0) ∧ Keep w w' := by
  obtain ⟨i0, hi0, hz0, hz1, hz2⟩ := info_parts hi
  have hw : IntKind.i64.wrap (n : Int) = (n : Int) := IntWalk.i64_in _ (by omega)
  have hn0 : n ≠ 0 := by omega
  have hl : ¬ ((n : Int) < 0) := by omega
  have h63' : ¬ (9223372036854775807 < (n : Int)) := by omega
  have h48' : ¬ (281474976710656 < Builtin.nextslicecap n 0 * i0.bytes) := by rw [nextslicecap_zero h0, hz2]; omega
  have h48'' : ¬ ((281474976710656 : Int) < (n : Int) * (i0.bytes : Int)) := by rw [hz2]; omega
  have h48c : ¬ (281474976710656 < Builtin.nextslicecap n 0) := by rw [nextslicecap_zero h0]; omega
  have hge := grownCap_ge w n 0 e
  have hcm := grownCap_le_maxLen w n 0 e (by unfold maxLen; omega)
  refine ⟨grownCap w n 0 e, w.drew.alloc (.cells (Builtin.zeroCells #[.int .u8 0] n ++ Builtin.zeroCells #[.int .u8 0] (grownCap w n 0 e - n)) e), ?_, ?_, ?_⟩
  · simp [Builtin.append_, run_underlying ht, run_underlying hu, asInt, asIntOf, sizeOf, typeInfo, zeroValue, hi0, hz0, hz1, hz2, hw, hn0, hl, h63', h48c, Question.forced, run_firstCells_none, newRow, grownCap, Value.cells]
    intro h
    omega
  · refine ⟨⟨by simp [u8s], .inr ⟨w.heap.size, _, _, rfl, Nat.le_refl _, heap_alloc_new w.drew _, hge, hcm, ?_, ?_⟩⟩, AllB.zeros n⟩
    · simp [size_zeroCells]; omega
    · rw [u8s_zeros]
      apply List.ext_getElem
      · simp [Builtin.zeroCells]
      · intro i h1 h2
        simp [Builtin.zeroCells, Nat.mod_one]
  · exact ((Keep.refl w).drew).alloc _ _
theorem wpList_append_zeros {P : Program} {w : World} {ops : Array Oper} {rest : List Oper} {o : Oper} {a : Act} {Q : Exit → Act → World → Prop} (hgd : o.guard = none) (s x : Operand) (t u : TypeId)
    (ho : o.op = .call { callee := .builtin .append, args := #[s, x], argTypes := #[t, u] }) {e : TypeId} {k : IntKind} (ht : P.underlying t = some (.slice e)) (hu : P.underlying u = some (.int k))
    (hi : (P.info? e).map (fun i => (i.zero, i.size, i.bytes)) = some (some (.int .u8 0), 1, 1)) (n : Nat) (hs : a.eval s = .slice none 0 0) (hx : a.eval x = .int .i64 (n : Int)) (h0 : 0 < n) (hn : n ≤ 140737488355328)
    (h : ∀ c w', Own w' w.heap.size e (some ⟨w.heap.size, 0, none⟩) n c (List.replicate n 0) → Keep w w' → wpList P ops Q rest (a.put o.dst (.slice (some ⟨w.heap.size, 0, none⟩) n c)) w') : wpList P ops Q (o :: rest) a w := by
  refine wpList_plain hgd fun _ hK => ?_
  obtain ⟨c, w', hr, h2, h3⟩ := run_append_zeros_nil (P := P) ht hu hi n h0 hn w o.type
  unfold Oper.wp execOp
  simp only [ho, resolve, invoke, builtin, Sem.run_bind, Sem.run_pure, Result.andThen_ok, List.map_toArray, List.map_cons, List.map_nil, hs, hx, hr]
  exact hK _ _ (h c w' h2 h3)
theorem Own.nothing {w : World} {base e n c : Nat} {A : Option Addr} {xs : List Nat} (h : Own w base e A n c xs) : Own w base e A 0 c [] := by
  rcases h.1.2 with ⟨hv, h0⟩ | ⟨g, cap, cur, hv, hg, hh, hle, hm, hs, _⟩
  · injection hv with e1 e2 e3
    subst e1; subst e3
    exact Own.none_ _ _ _
  · injection hv with e1 e2 e3
    subst e1; subst e3
    exact ⟨⟨by simp [u8s], .inr ⟨g, _, cur, rfl, hg, hh, Nat.zero_le _, hm, hs, by simp [u8s]⟩⟩, fun x hx => by simp at hx⟩
set_option maxRecDepth 100000 in
theorem grow_nil (n : Nat) (w : World) (hn : n ≤ 140737488355328) :
    Calls Tryz.prog 105 #[.slice none 0 0, .int .i64 (n : Int)] w (NewBytes w []) := by
  by_cases h0 : n = 0
  · subst h0
    go_enter Tryz.func105, Tryz.ntmps105
    go_wp2_with fail
    go_ret
    exact ⟨none, 0, 0, rfl, Own.none_ _ _ _, Keep.refl _⟩
  · have b1 : ¬ ((n : Int) < 0) := by omega
    have b2 : (0 : Int) < (n : Int) := by omega
    have b3 : (0 : Int) ≤ (n : Int) := by omega
    go_enter Tryz.func105, Tryz.ntmps105
    go_wp2_with (at_builtin; refine wpList_append_zeros rfl _ _ 22 3 rfl Tryz.underlying22 Tryz.underlying3 info5 n rfl rfl (by omega) hn ?_)
    intro c w' hown hk
    have HO := Lib.hid hown.nothing
    have HK := Lib.hid hk
    have hle : (n : Int) ≤ (c : Int) := by
      rcases hown.1.2 with ⟨hv, h0⟩ | ⟨g, cap, cur, hv, _, _, hle, _⟩
      · omega
      · injection hv with _ _ h3; omega
    have hc0 : (0 : Int) ≤ (c : Int) := by omega
    clear hown hk
    go_wp2_with fail
    go_ret
    exact ⟨_, _, _, rfl, HO.out, HK.out⟩
/-- Rows, one behind the other. -/
def joinN (rs : List RowV) : List Nat := rs.flatMap (·.xs)
def sizesN (rs : List RowV) : Nat := (rs.map (·.n)).sum
theorem take_snoc_at {α : Type} {l : List α} {k : Nat} {r : α} (h : l[k]? = some r) : l.take (k + 1) = l.take k ++ [r] := by
  rw [List.take_add_one, h]; rfl
theorem sizesN_succ {rs : List RowV} {k : Nat} {r : RowV} (h : rs[k]? = some r) : sizesN (rs.take (k + 1)) = sizesN (rs.take k) + r.n := by
  rw [take_snoc_at h]; simp [sizesN]
theorem joinN_succ {rs : List RowV} {k : Nat} {r : RowV} (h : rs[k]? = some r) : joinN (rs.take (k + 1)) = joinN (rs.take k) ++ r.xs := by
  rw [take_snoc_at h]; simp [joinN]
theorem sizesN_le (rs : List RowV) (k : Nat) : sizesN (rs.take k) ≤ sizesN rs := by
  have h : rs = rs.take k ++ rs.drop k := (List.take_append_drop k rs).symm
  have : sizesN rs = sizesN (rs.take k) + sizesN (rs.drop k) := by
    conv => lhs; rw [h, sizesN, List.map_append, List.sum_append]
    rfl
  omega
/-- Slices of bytes in a row, of whatever capacities. -/
def RowsUp (w : World) (B : Nat) (A : Option Addr) (n : Nat) (rs : List RowV) : Prop :=
  rs.length = n ∧ (∀ r ∈ rs, Bytes w B r.A r.n r.xs) ∧ (0 < n → ∃ b off, A = some ⟨b, off, none⟩ ∧ b < B ∧ ∀ i r, rs[i]? = some r → w.cell? ⟨b, off + i, none⟩ = some (.slice r.A r.n r.c))
theorem RowsAt.up {w : World} {B n : Nat} {A : Option Addr} {rs : List RowV} (h : RowsAt w B A n rs) : RowsUp w B A n rs := ⟨h.1, fun r hr => (h.2.1 r hr).1, h.2.2⟩
theorem RowsUp.below {w w' : World} {B n : Nat} {A : Option Addr} {rs : List RowV} (h : RowsUp w B A n rs) (k : Below B w w') : RowsUp w' B A n rs :=
  ⟨h.1, fun r hr => (h.2.1 r hr).below k, fun hn => by
    obtain ⟨b, off, e, hb, hc⟩ := h.2.2 hn
    exact ⟨b, off, e, hb, fun i r hi => (k.cell (p := ⟨b, off + i, none⟩) hb).trans (hc i r hi)⟩⟩
theorem RowsUp.keep {w w' : World} {B n : Nat} {A : Option Addr} {rs : List RowV} (h : RowsUp w B A n rs) (hB : B ≤ w.heap.size) (k : Keep w w') : RowsUp w' B A n rs := h.below (Below.mono k hB)
theorem RowsUp.at_ {w : World} {B n : Nat} {A : Option Addr} {rs : List RowV} (h : RowsUp w B A n rs) {k : Nat} (hk : k < n) :
    ∃ b off r, A = some ⟨b, off, none⟩ ∧ b < B ∧ rs[k]? = some r ∧ w.cell? ⟨b, off + k, none⟩ = some (.slice r.A r.n r.c) ∧ Bytes w B r.A r.n r.xs := by
  obtain ⟨b, off, e, hb, hc⟩ := h.2.2 (by omega)
  have hl : k < rs.length := by rw [h.1]; exact hk
  have hr := List.getElem?_eq_getElem hl
  exact ⟨b, off, rs[k], e, hb, hr, hc k _ hr, h.2.1 _ (List.getElem_mem hl)⟩
/-- A literal of slices, its place said. -/
theorem RowsUp.lit {w : World} {h : Nat} (hh : w.heap.size = h) (t : TypeId) (n : Nat) (rs : List RowV) (cs : Array Value) (hc : cs = (rs.map RowV.val).toArray) (hl : rs.length = n) (hr : ∀ r ∈ rs, Bytes w h r.A r.n r.xs) :
    RowsUp (w.alloc (.cells cs t)) (h + 1) (some ⟨h, 0, none⟩) n rs := by
  subst hh
  refine ⟨hl, fun r h1 => ((hr r h1).alloc (Nat.le_refl _) _).mono (by omega), fun _ => ⟨_, 0, rfl, by omega, fun i r hi => ?_⟩⟩
  rw [cell_of_row _ _ _ _ _ _ (heap_alloc_new w _), hc, Nat.zero_add]
  simp [hi, RowV.val]
set_option maxRecDepth 100000 in
set_option maxHeartbeats 1000000 in
theorem concat_any (B n c : Nat) (A : Option Addr) (rs : List RowV) (w : World) (h : RowsUp w B A n rs) (hB : B ≤ w.heap.size) (hn : n ≤ 140737488355328) (ht : sizesN rs ≤ 140737488355328) :
    Calls Tryz.prog 73 #[.slice A n c] w (NewBytes w (joinN rs)) := by
  have HH := Lib.hid h
  have HL := Lib.hid h.1
  clear h
  go_enter Tryz.func73, Tryz.ntmps73
  go_wp2_with fail
  go_loop [3, 11] (fun t i => ∃ k : Nat, k ≤ n ∧ i = .int .i64 k ∧ t = .int .i64 (sizesN (rs.take k) : Nat)) (fun _ i => n - (intOf i).toNat)
  case atStart => exact ⟨0, by omega, rfl, rfl⟩
  case round =>
    obtain ⟨k, hk, rfl, rfl⟩ := hrel
    by_cases hlt : k < n
    · obtain ⟨b, off, r, rfl, hb, hr, hc, hby⟩ := HH.out.at_ hlt
      have e0 : (0 : Int) ≤ (k : Int) := Int.natCast_nonneg _
      have e1 : (k : Int) < (n : Int) := by omega
      have h1 := sizesN_succ hr
      have h2 := sizesN_le rs (k + 1)
      have h3 : sizesN (rs.take k) + r.n ≤ 140737488355328 := by omega
      have HS := Lib.hid h1
      obtain ⟨t, ht'⟩ : ∃ t, sizesN (rs.take k) = t := ⟨_, rfl⟩
      rw [ht'] at h3 HS ⊢
      have e2 : (0 : Int) ≤ (t : Int) + (r.n : Int) := by omega
      have e3 : ¬ ((t : Int) + (r.n : Int) < 0) := by omega
      clear h1 h2 hr hby ht'
      go_wp2_with fail
      go_round
      case rel => exact ⟨k + 1, by omega, by go_num, by rw [HS.out]; go_num⟩
      case measure => simp [intOf]; omega
    · obtain rfl : k = n := by omega
      have h3 : sizesN (rs.take k) ≤ 140737488355328 := Nat.le_trans (sizesN_le rs k) ht
      generalize sizesN (rs.take k) = t at *
      go_wp2_with fail
      refine (grow_nil t _ h3).mono ?_
      rintro e w1 ⟨A1, n1, c1, rfl, o1, k1⟩
      obtain rfl : n1 = 0 := o1.length.symm
      have O1 := Lib.hid o1
      have K1 := Lib.hid k1
      clear o1 k1
      go_wp2_with fail
      go_loopw [6, 27] (fun o i wr => ∃ (j : Nat) (Ao : Option Addr) (co : Nat), j ≤ k ∧ i = .int .i64 j ∧ o = .slice Ao (sizesN (rs.take j) : Nat) co ∧ Own wr w.heap.size 5 Ao (sizesN (rs.take j)) co (joinN (rs.take j)) ∧ Keep w wr) (fun _ i _ => k - (intOf i).toNat)
      case atStart => exact ⟨0, A1, c1, by omega, rfl, rfl, O1.out, K1.out⟩
      case round =>
        obtain ⟨j, Ao, co, hj, rfl, rfl, hown, hkeep⟩ := hrel
        have HO := Lib.hid hown
        have HK := Lib.hid hkeep
        clear hown hkeep
        by_cases hlt : j < k
        · obtain ⟨b, off, r, rfl, hb, hr, hc, hby⟩ := (HH.out.keep hB HK.out).at_ hlt
          have e0 : (0 : Int) ≤ (j : Int) := Int.natCast_nonneg _
          have e1 : (j : Int) < (k : Int) := by omega
          have h1 := sizesN_succ hr
          have h2 := sizesN_le rs (j + 1)
          have h3 : sizesN (rs.take j) + r.n ≤ 140737488355328 := by omega
          have HS := Lib.hid h1
          have HJ := Lib.hid (joinN_succ hr)
          have HBY := Lib.hid hby
          clear h1 h2 hr hby
          go_wp2_with (at_builtin; refine wpList_append_bytes rfl _ _ 22 rfl Tryz.underlying22 info5 rfl HO.out rfl HBY.out h3 HK.out.size ?_)
          intro A2 c2 w2 h2 hgr2 _
          have HO2 := Lib.hid h2
          have HK2 := Lib.hid (HK.out.grown hgr2 HO.out.rowLe)
          clear h2 hgr2
          go_wp2_with fail
          go_roundw
          case rel => exact ⟨j + 1, A2, c2, by omega, by go_num, by rw [HS.out], by rw [HS.out, HJ.out]; exact HO2.out, HK2.out⟩
          case measure => simp [intOf]; omega
        · obtain rfl : j = k := by omega
          go_wp2_with fail
          go_ret
          refine ⟨Ao, _, co, rfl, ?_, HK.out⟩
          have e := HO.out
          rw [List.take_of_length_le (by rw [HL.out]; exact Nat.le_refl _)] at e
          rw [List.take_of_length_le (by rw [HL.out]; exact Nat.le_refl _)]
          exact e
end Go.Proofs.YtifopodnceopjaaGreatDoor
/- From a walk to a law's statement: a law that answers true and turns nothing that was there. -/
namespace Go.Proofs.YtifopodnceopjaaGreatDoor
open Go.ChangeShapes Go.WideShapes Go.ChangeAt Go.RowKit

section
variable {H : Type} {enc : TypeId × Value → H} {P : Program}

/-- The arguments read behind the call as they did before. -/
theorem args_kept (hl : laidOutB P = true) {W W' : World} (hb : Below W.heap.size W W') : ∀ {ts : List TypeId} {vs : List Value} {ds : List (DataW H)} {ps : List MemPlace},
    (∀ t ∈ ts, P.readableRec t = true ∧ t < P.types.size) → DataW.TrodAll enc P W 0 (fun _ => true) true ts vs ds ps → (∀ x ∈ ps, x.block < W.heap.size) →
    DataW.TrodAll enc P W' 0 (fun b => decide (b < W.heap.size)) true ts vs ds ps := by
  intro ts
  induction ts with
  | nil =>
    intro vs ds ps _ h _
    obtain ⟨rfl, rfl, rfl⟩ := trodAll_nil h
    exact trodAll_mk0
  | cons t ts ih =>
    intro vs ds ps hr h hlt
    obtain ⟨v, vs, d, ds, p, p', rfl, rfl, rfl, h0, h1⟩ := trodAll_cons h
    obtain ⟨r1, r2⟩ := hr t (by simp)
    exact trodAll_cons_mk (Below.trod hl r1 r2 h0 hb fun x hx => hlt x (by simp [hx])) (ih (fun t ht => hr t (by simp [ht])) h1 fun x hx => hlt x (by simp [hx]))

theorem args_length {W : World} {base : Nat} {sp : Nat → Bool} {held : Bool} : ∀ {ts : List TypeId} {vs : List Value} {ds : List (DataW H)} {ps : List MemPlace}, DataW.TrodAll enc P W base sp held ts vs ds ps → ds.length = ts.length := by
  intro ts
  induction ts with
  | nil =>
    intro vs ds ps h
    obtain ⟨rfl, rfl, rfl⟩ := trodAll_nil h
    rfl
  | cons t ts ih =>
    intro vs ds ps h
    obtain ⟨v, vs, d, ds, p, p', rfl, rfl, rfl, h0, h1⟩ := trodAll_cons h
    simp [ih h1]

end
end Go.Proofs.YtifopodnceopjaaGreatDoor
/- From a walk to a law's statement where package-level tables are read; what a table holds stays. -/
namespace Go.Proofs.YtifopodnceopjaaGreatDoor
open Go.ChangeShapes Go.WideShapes Go.ChangeAt Go.RowKit

/-- A table that is there stays as it is. -/
theorem tab_keep {P : Program} {w w' : World} {name : String} {k : IntKind} {zs : List Int} (h : Lib.TabIs P w name k zs) (kp : Keep w w') : Lib.TabIs P w' name k zs := by
  unfold Lib.TabIs World.var? at h ⊢
  cases hg : P.globalNamed name with
  | none => rw [hg] at h; cases h
  | some g =>
    rw [hg] at h
    simp only [Option.bind_some] at h ⊢
    have hlt : g < w.heap.size := by
      rcases Nat.lt_or_ge g w.heap.size with e | e
      · exact e
      · rw [Array.getElem?_eq_none e] at h; cases h
    rw [kp.block g hlt]
    exact h
section
variable {H : Type} {enc : TypeId × Value → H}
/-- A law whose walk answers true and turns nothing that was there, over tables that are laid: what is handed over. -/
theorem law_handed_laid {C : Checked} {os : Os} {f : FuncId} {fn : Func} {s : OpenSpec} {sc : ChangeSpec} {F : Stop.Interp} {laid : List (String × DataW Unit)} (hat : s.at F = sc)
    (own : ownKnob C.prog.godebug = none) (started : os.Started) (noInit : C.prog.inits.idxOf? f = none) (hfn : C.prog.funcs[f]? = some fn)
    (witness : ∃ (w : World) (tape : Tape) (i : Input), w.os = os ∧ (w.forCall tape i).Shaped C.prog ∧ i.vars = [] ∧ Input.okWide C.prog (w.forCall tape i) .any w.heap.size f i ∧
      s.preRow enc C.prog fn [] false laid (w.forCall tape i).memory i.args ∧ ({} : Assume).holds C.prog (lone (Frame.enter C.prog f i.args .normal) [] (w.forCall tape i)))
    (hl : laidOutB C.prog = true) (hr : ∀ t ∈ fn.params.toList, C.prog.readableRec t = true ∧ t < C.prog.types.size) {tb : TypeId} (hres : fn.resultTypes = #[tb]) (htb : C.prog.underlying tb = some .bool)
    (hvars : sc.vars = []) (hsv : s.vars = []) (hbare : s.bare.plain.varTypes C.prog = []) (hspec : ∀ ds : List (DataW H), ds.length = fn.params.size → sc.fn H (ds ++ []) = { results := [.lit (.bool true)], args := ds })
    (walk : ∀ (W : World) (base : Nat) (args : Array Value) (ds : List (DataW H)) (p : List MemPlace),
      (∀ (j : Nat) t v, fn.params[j]? = some t → args[j]? = some v → Value.okWide C.prog W .any base t v) →
      DataW.TrodAll enc C.prog W 0 (fun _ => true) true fn.params.toList args.toList ds p →
      (DataW.weightsEach C.prog fn.params.toList ds).all (· ≤ reachBytes) = true → (∀ k, s.cond = some k → k H ds = true) → laidMetH C.prog laid W →
      Calls C.prog f args W fun e W' => e = .returned (.bool true) ∧ Below W.heap.size W W') :
    ReturnsInHanded {} C os f .any (s.preRow enc C.prog fn [] false laid) ((s.at F).post enc C.prog fn false true false false) := by
  refine returnsInHanded_of_row own started noInit hfn witness ?_
  intro W base args ds gs before hval hW _ hkk hsz hL _ _
  have hW' := hW
  obtain ⟨p, q, hA, hV, rfl, _, _⟩ := hW
  rw [hsv] at hV
  obtain ⟨rfl, rfl⟩ := trodVars_none hV
  rw [hbare] at hsz
  rw [hat]
  simp only [List.append_nil] at hsz hW' hkk
  rw [hsv] at hW'
  have hlen : ds.length = fn.params.size := by simpa using args_length hA
  have hlt : ∀ x ∈ p, x.block < W.heap.size := DataW.TrodAll.lt hA
  refine (walk W base args ds p hval hA hsz hkk hL).mono fun e W' ⟨he, bel⟩ => ?_
  subst he
  have hsp := hspec ds hlen
  refine ⟨_, rfl, ds, [], p, [], p, [], by rw [hvars]; exact hW', ?_, ?_, ?_, bel.frame _, fun h => by cases h⟩
  · rw [hsp, hres]
    exact trodAll_mk1 (shut_bool htb _)
  · rw [hsp]
    exact args_kept hl bel hr hA hlt
  · rw [hsp, hvars]
    rfl
end
end Go.Proofs.YtifopodnceopjaaGreatDoor
/- The library's slices.Equal at bytes. -/
namespace Go.Proofs.YtifopodnceopjaaGreatDoor
open Go.RowKit
set_option maxRecDepth 100000 in
set_option maxHeartbeats 1000000 in
theorem sequal_any (B B' n m ca cb : Nat) (A A' : Option Addr) (xs ys : List Nat) (w : World) (h : Bytes w B A n xs) (h' : Bytes w B' A' m ys) (hn : n ≤ 150000000000000) :
    Calls Tryz.prog 81 #[.slice A n ca, .slice A' m cb] w fun e w' => e = .returned (.bool (decide (xs = ys))) ∧ ∃ k, w' = w.drewN k := by
  have HB := Lib.hid h
  have HB' := Lib.hid h'
  have hl := h.length
  have hl' := h'.length
  by_cases hlen : n = m
  · subst hlen
    have b0 : ((n : Int) != (n : Int)) = false := by simp
    have HL := Lib.hid hl
    have HL' := Lib.hid hl'
    clear h h' hl hl'
    go_enter Tryz.func81, Tryz.ntmps81
    go_wp2_with fail
    go_loopw [13] (fun i wr => ∃ k : Nat, k ≤ n ∧ i = .int .i64 k ∧ (∃ q, wr = w.drewN q) ∧ ∀ j, j < k → xs.getD j 0 = ys.getD j 0) (fun i _ => n - (intOf i).toNat)
    case atStart => exact ⟨0, by omega, rfl, ⟨0, rfl⟩, fun j hj => by omega⟩
    case round =>
      obtain ⟨k, hk, rfl, ⟨q, rfl⟩, hall⟩ := hrel
      have HA := Lib.hid hall
      clear hall
      by_cases hlt : k < n
      · obtain ⟨b1, o1, rfl, _, c1⟩ := HB.out.at_ hlt
        obtain ⟨b2, o2, rfl, _, c2⟩ := HB'.out.at_ hlt
        have e1 : (0 : Int) ≤ (k : Int) := Int.natCast_nonneg _
        have e2 : (k : Int) < (n : Int) := by omega
        by_cases hd : xs.getD k 0 = ys.getD k 0
        · have HD := Lib.hid hd
          rw [hd] at c1
          obtain ⟨y, hy⟩ : ∃ y, ys.getD k 0 = y := ⟨_, rfl⟩
          rw [hy] at c1 c2
          have bd : ((y : Int) != (y : Int)) = false := by simp
          clear hd hy
          go_wp2_with fail
          go_quiet (fail)
          go_wp2_with fail
          have HA2 : Hid (∀ j, j < k + 1 → xs.getD j 0 = ys.getD j 0) := fun j hj => by
            by_cases e : j = k
            · rw [e]; exact HD.out
            · exact HA.out j (by omega)
          go_roundw
          case rel => exact ⟨k + 1, by omega, by go_num, ⟨_, rfl⟩, HA2.out⟩
          case measure => simp [intOf]; omega
        · have bd : (((xs.getD k 0 : Nat) : Int) != ((ys.getD k 0 : Nat) : Int)) = true := by rw [bne_iff_ne]; omega
          have HC : Hid (decide (xs = ys) = false) := by show _ = _; exact decide_eq_false (fun e => hd (by rw [e]))
          generalize xs.getD k 0 = x at *
          generalize ys.getD k 0 = y at *
          clear hd
          go_wp2_with fail
          go_quiet (fail)
          go_wp2_with fail
          go_ret
          exact ⟨by rw [HC.out]; rfl, _, World.drewN_drewN ..⟩
      · obtain rfl : k = n := by omega
        have he : xs = ys := by
          apply List.ext_getElem?
          intro i
          rcases Nat.lt_or_ge i k with hi | hi
          · have e := HA.out i hi
            have i1 : i < xs.length := by rw [HL.out]; exact hi
            have i2 : i < ys.length := by rw [HL'.out]; exact hi
            rw [List.getElem?_eq_getElem i1, List.getElem?_eq_getElem i2]
            simp only [List.getD_eq_getElem?_getD, List.getElem?_eq_getElem i1, List.getElem?_eq_getElem i2, Option.getD_some] at e
            rw [e]
          · rw [List.getElem?_eq_none (by rw [HL.out]; exact hi), List.getElem?_eq_none (by rw [HL'.out]; exact hi)]
        have HC : Hid (decide (xs = ys) = true) := by show _ = _; exact decide_eq_true he
        clear he
        go_wp2_with fail
        go_ret
        exact ⟨by rw [HC.out]; rfl, _, rfl⟩
  · have b0 : ((n : Int) != (m : Int)) = true := by rw [bne_iff_ne]; omega
    have HC : Hid (decide (xs = ys) = false) := by show _ = _; exact decide_eq_false (fun e => hlen (by rw [← hl, ← hl', e]))
    clear h h' hl hl' hlen
    go_enter Tryz.func81, Tryz.ntmps81
    go_wp2_with fail
    go_ret
    exact ⟨by rw [HC.out]; rfl, 0, rfl⟩
end Go.Proofs.YtifopodnceopjaaGreatDoor
