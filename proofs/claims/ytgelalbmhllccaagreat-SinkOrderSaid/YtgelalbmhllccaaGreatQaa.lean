/- Words for memory: nothing that was there has turned. -/
import Derived.Below
import Derived.Carry
import Derived.Laws.Rows
import Derived.Deep.Draws
import Derived.ChangeOld
import Derived.ChangeShapes
import Derived.OpenShut
import Derived.SizedLaws
import Derived.JoinedOf
import Derived.ProofKit
import Derived.Laws.BytesArg
import Derived.Laws.AppendOwn
import Derived.Laws.OwnMore
import Derived.Laws.MakeOwn
import Derived.Maps.AppendAt
import Derived.OwnWalk
import Derived.Deep.Slices
import Derived.Deep.Fields
import Derived.Laws.IdiomArrays
import Derived.Deep.Grids
namespace Go.Proofs.YtgelalbmhllccaaGreat
open Go.RowKit

/-- Nothing of what was there has turned; new blocks may lie behind. -/
def Keep (w w' : World) : Prop := Below w.heap.size w w'
namespace Keep
variable {W w w' : World}
theorem refl (w : World) : Keep w w := Below.refl _ _
theorem trans {a b c : World} (h : Keep a b) (k : Keep b c) : Keep a c := Below.trans h (Below.mono k (Below.size h))
theorem alloc (h : Keep W w) (c : Array Value) (t : TypeId) : Keep W (w.alloc (.cells c t)) := Below.alloc h (Below.size h) _
theorem setCell (h : Keep W w) {a : Addr} (ha : W.heap.size ≤ a.block) (v : Value) : Keep W (w.setCell a v) := Below.setCell h ha v
theorem drew (h : Keep W w) : Keep W w.drew := Below.drew h
theorem drewN (h : Keep W w) (n : Nat) : Keep W (w.drewN n) := ⟨h.os, h.tape, h.output, h.size, h.block⟩
theorem grown {row : Option Nat} (h : Keep W w) (hg : w.grownBy w' row) (hr : ∀ k, row = some k → W.heap.size ≤ k) : Keep W w' := Below.grown h hg (Below.size h) hr
theorem setRow (h : Keep W w) {g : Nat} (hg : W.heap.size ≤ g) {old cs : Array Value} {t : TypeId} (_hb : w.heap[g]? = some (.cells old t)) : Keep W (w.setRow g cs) :=
  Below.trans h ⟨rfl, rfl, rfl, by rw [setRow_size]; exact Nat.le_refl _, fun k hk => setRow_other w g k cs (by omega)⟩
theorem block (h : Keep W w) (k : Nat) (hk : k < W.heap.size) : w.heap[k]? = W.heap[k]? := Below.block h k hk
theorem size (h : Keep W w) : W.heap.size ≤ w.heap.size := Below.size h
end Keep
end Go.Proofs.YtgelalbmhllccaaGreat
/- From a walk to a law's statement: a law that answers true and turns nothing that was there. -/
namespace Go.Proofs.YtgelalbmhllccaaGreat
open Go.ChangeShapes Go.WideShapes Go.ChangeAt Go.RowKit

section
variable {H : Type} {enc : TypeId × Value → H} {P : Program}

/-- The arguments read behind the call as they did before. -/
theorem args_kept (hl : laidOutB P = true) {W W' : World} (hb : Below W.heap.size W W') : ∀ {ts : List TypeId} {vs : List Value} {ds : List (DataW H)} {ps : List MemPlace},
    (∀ t ∈ ts, P.readableRec t = true ∧ t < P.types.size) → DataW.TrodAll enc P W 0 (fun _ => true) true ts vs ds ps → (∀ x ∈ ps, x.block < W.heap.size) →
    DataW.TrodAll enc P W' 0 (fun b => decide (b < W.heap.size)) true ts vs ds ps := by
  intro ts
  induction ts with
  | nil =>
    intro vs ds ps _ h _
    obtain ⟨rfl, rfl, rfl⟩ := trodAll_nil h
    exact trodAll_mk0
  | cons t ts ih =>
    intro vs ds ps hr h hlt
    obtain ⟨v, vs, d, ds, p, p', rfl, rfl, rfl, h0, h1⟩ := trodAll_cons h
    obtain ⟨r1, r2⟩ := hr t (by simp)
    exact trodAll_cons_mk (Below.trod hl r1 r2 h0 hb fun x hx => hlt x (by simp [hx])) (ih (fun t ht => hr t (by simp [ht])) h1 fun x hx => hlt x (by simp [hx]))

theorem args_length {W : World} {base : Nat} {sp : Nat → Bool} {held : Bool} : ∀ {ts : List TypeId} {vs : List Value} {ds : List (DataW H)} {ps : List MemPlace}, DataW.TrodAll enc P W base sp held ts vs ds ps → ds.length = ts.length := by
  intro ts
  induction ts with
  | nil =>
    intro vs ds ps h
    obtain ⟨rfl, rfl, rfl⟩ := trodAll_nil h
    rfl
  | cons t ts ih =>
    intro vs ds ps h
    obtain ⟨v, vs, d, ds, p, p', rfl, rfl, rfl, h0, h1⟩ := trodAll_cons h
    simp [ih h1]

/-- A law whose walk answers true and turns nothing that was there: what is handed over. -/
theorem law_handed {C : Checked} {os : Os} {f : FuncId} {fn : Func} {s : ChangeSpec}
    (own : ownKnob C.prog.godebug = none) (started : os.Started) (noInit : C.prog.inits.idxOf? f = none) (hfn : C.prog.funcs[f]? = some fn)
    (witness : ∃ (w : World) (tape : Tape) (i : Input), w.os = os ∧ (w.forCall tape i).Shaped C.prog ∧ i.vars = [] ∧ Input.okWide C.prog (w.forCall tape i) .any w.heap.size f i ∧
      s.pre6 enc C.prog fn [] false (w.forCall tape i).memory i.args ∧ ({} : Assume).holds C.prog (lone (Frame.enter C.prog f i.args .normal) [] (w.forCall tape i)))
    (hl : laidOutB C.prog = true) (hr : ∀ t ∈ fn.params.toList, C.prog.readableRec t = true ∧ t < C.prog.types.size) {tb : TypeId} (hres : fn.resultTypes = #[tb]) (htb : C.prog.underlying tb = some .bool)
    (hvars : s.vars = []) (hspec : ∀ ds : List (DataW H), ds.length = fn.params.size → s.fn H (ds ++ []) = { results := [.lit (.bool true)], args := ds })
    (walk : ∀ (W : World) (base : Nat) (args : Array Value) (ds : List (DataW H)) (p : List MemPlace),
      (∀ (j : Nat) t v, fn.params[j]? = some t → args[j]? = some v → Value.okWide C.prog W .any base t v) →
      DataW.TrodAll enc C.prog W 0 (fun _ => true) true fn.params.toList args.toList ds p →
      (DataW.weightsEach C.prog fn.params.toList ds).all (· ≤ reachBytes) = true →
      Calls C.prog f args W fun e W' => e = .returned (.bool true) ∧ Below W.heap.size W W') :
    ReturnsInHanded {} C os f .any (s.pre6 enc C.prog fn [] false) (s.post enc C.prog fn false true false false) := by
  refine returnsInHanded_of_change_sized own started noInit hfn witness ?_
  intro W base args ds gs before hval hW _ hsz _
  have hW' := hW
  obtain ⟨p, q, hA, hV, rfl, _, _⟩ := hW
  rw [hvars] at hV
  obtain ⟨rfl, rfl⟩ := trodVars_none hV
  have hty : s.plain.varTypes C.prog = [] := by
    show DataSpec.varTypes C.prog s.plain = []
    have h1 : s.plain.vars = [] := hvars
    unfold DataSpec.varTypes
    rw [h1]
    rfl
  rw [hty] at hsz
  simp only [List.append_nil] at hsz hW'
  have hlen : ds.length = fn.params.size := by simpa using args_length hA
  have hlt : ∀ x ∈ p, x.block < W.heap.size := DataW.TrodAll.lt hA
  refine (walk W base args ds p hval hA hsz).mono fun e W' ⟨he, bel⟩ => ?_
  subst he
  have hsp := hspec ds hlen
  refine ⟨_, rfl, ds, [], p, [], p, [], hW', ?_, ?_, ?_, bel.frame _, fun h => by cases h⟩
  · rw [hsp, hres]
    exact trodAll_mk1 (shut_bool htb _)
  · rw [hsp]
    exact args_kept hl bel hr hA hlt
  · rw [hsp, hvars]
    rfl
end
end Go.Proofs.YtgelalbmhllccaaGreat
/- Slices of bytes: what they hold, in memory that was there or is new; as strings. -/
namespace Go.Proofs.YtgelalbmhllccaaGreat
open Go.RowKit Go.ChangeShapes Go.WideShapes

/-- Bytes as cells. -/
def u8s (xs : List Nat) : List Value := xs.map fun x : Nat => Value.int .u8 (x : Int)
def AllB (xs : List Nat) : Prop := ∀ x ∈ xs, x < 256
theorem u8s_length (xs : List Nat) : (u8s xs).length = xs.length := by simp [u8s]
theorem u8s_get (xs : List Nat) (i : Nat) : (u8s xs)[i]? = xs[i]?.map fun x : Nat => Value.int .u8 (x : Int) := by simp [u8s]
theorem AllB.at {xs : List Nat} (h : AllB xs) (i : Nat) (hi : i < xs.length) : xs[i] < 256 := h _ (List.getElem_mem hi)
theorem AllB.getD {xs : List Nat} (h : AllB xs) (i : Nat) : xs.getD i 0 < 256 := by
  rw [List.getD_eq_getElem?_getD]
  cases e : xs[i]? with
  | none => exact (by decide : 0 < 256)
  | some x => exact h x (List.mem_of_getElem? e)
theorem AllB.append {xs ys : List Nat} (h : AllB xs) (k : AllB ys) : AllB (xs ++ ys) := fun x hx => by
  rcases List.mem_append.1 hx with h1 | h1
  · exact h x h1
  · exact k x h1
theorem AllB.take {xs : List Nat} (h : AllB xs) (n : Nat) : AllB (xs.take n) := fun x hx => h x (List.mem_of_mem_take hx)

/-- A slice of n bytes at A, below block B: they are xs. -/
def Bytes (w : World) (B : Nat) (A : Option Addr) (n : Nat) (xs : List Nat) : Prop :=
  xs.length = n ∧ AllB xs ∧ (0 < n → ∃ b off, A = some ⟨b, off, none⟩ ∧ b < B ∧ ∀ i, i < n → w.cell? ⟨b, off + i, none⟩ = some (.int .u8 ((xs.getD i 0 : Nat) : Int)))
namespace Bytes
variable {w w' : World} {B B' n : Nat} {A : Option Addr} {xs : List Nat}
theorem length (h : Bytes w B A n xs) : xs.length = n := h.1
theorem all (h : Bytes w B A n xs) : AllB xs := h.2.1
theorem nil (w : World) (B : Nat) (A : Option Addr) : Bytes w B A 0 [] := ⟨rfl, fun _ h => by simp at h, fun h => absurd h (by omega)⟩
theorem below (h : Bytes w B A n xs) (k : Below B w w') : Bytes w' B A n xs := ⟨h.1, h.2.1, fun hn => by
  obtain ⟨b, off, e, hb, hc⟩ := h.2.2 hn
  exact ⟨b, off, e, hb, fun i hi => (k.cell (p := ⟨b, off + i, none⟩) hb).trans (hc i hi)⟩⟩
theorem keep (h : Bytes w B A n xs) (hB : B ≤ w.heap.size) (k : Keep w w') : Bytes w' B A n xs := h.below (Below.mono k hB)
theorem mono (h : Bytes w B A n xs) (hB : B ≤ B') : Bytes w B' A n xs := ⟨h.1, h.2.1, fun hn => by
  obtain ⟨b, off, e, hb, hc⟩ := h.2.2 hn
  exact ⟨b, off, e, by omega, hc⟩⟩
theorem at_ (h : Bytes w B A n xs) {k : Nat} (hk : k < n) : ∃ b off, A = some ⟨b, off, none⟩ ∧ b < B ∧ w.cell? ⟨b, off + k, none⟩ = some (.int .u8 ((xs.getD k 0 : Nat) : Int)) := by
  obtain ⟨b, off, e, hb, hc⟩ := h.2.2 (by omega)
  exact ⟨b, off, e, hb, hc k hk⟩
end Bytes

theorem toList_inj {a b : ByteArray} (h : a.toList = b.toList) : a = b := by
  rw [ByteArray.toList_eq, ByteArray.toList_eq] at h
  exact Go.WideShapes.bytes_inj h
/-- The bytes as a string. -/
def strN (xs : List Nat) : ByteArray := ⟨(xs.map UInt8.ofNat).toArray⟩
theorem strN_inj {xs ys : List Nat} (hx : AllB xs) (hy : AllB ys) (h : strN xs = strN ys) : xs = ys := by
  have h1 : xs.map UInt8.ofNat = ys.map UInt8.ofNat := by
    have := congrArg (fun b : ByteArray => b.data.toList) h
    simpa [strN] using this
  have key : ∀ (a b : List Nat), AllB a → AllB b → a.map UInt8.ofNat = b.map UInt8.ofNat → a = b := by
    intro a
    induction a with
    | nil => intro b _ _ e; cases b with
      | nil => rfl
      | cons y ys => simp at e
    | cons x xs ih =>
      intro b ha hb e
      cases b with
      | nil => simp at e
      | cons y ys =>
        simp only [List.map_cons, List.cons.injEq] at e
        have hx := ha x (by simp)
        have hy := hb y (by simp)
        have e1 := congrArg UInt8.toNat e.1
        simp only [UInt8.toNat_ofNat'] at e1
        rw [Nat.mod_eq_of_lt hx, Nat.mod_eq_of_lt hy] at e1
        rw [e1, ih ys (fun z hz => ha z (by simp [hz])) (fun z hz => hb z (by simp [hz])) e.2]
  exact key xs ys hx hy h1
theorem strN_eq {xs ys : List Nat} (h : xs = ys) : ((strN xs).toList == (strN ys).toList) = true := by subst h; exact beq_iff_eq.2 rfl
theorem strN_ne {xs ys : List Nat} (hx : AllB xs) (hy : AllB ys) (h : xs ≠ ys) : ((strN xs).toList == (strN ys).toList) = false :=
  beq_eq_false_iff_ne.2 fun e => h (strN_inj hx hy (toList_inj e))

section
variable {P : Program}
/-- string(b). -/
theorem run_str {w : World} {B n : Nat} {A : Option Addr} {xs : List Nat} (h : Bytes w B A n xs) {src e dst : TypeId} (hs : P.underlying src = some (.slice e)) (he : P.underlying e = some (.int .u8)) (hd : P.underlying dst = some .string) (c : Nat) :
    (convert src dst (.slice A n c)).run P w = .ok (.string (strN xs)) w := by
  have hnums : strOfNums (xs.map fun x : Nat => (x : Int)) = strN xs := by
    simp [strOfNums, strN, Function.comp_def]
  by_cases hn : n = 0
  · subst hn
    have hx : xs = [] := List.eq_nil_of_length_eq_zero h.1
    subst hx
    cases A with
    | none =>
      rw [run_convert_bytes_nil w src e hs he 0 c dst hd]
      rfl
    | some ad =>
      rw [run_convert_bytes_string w src dst e _ 0 c hs he hd, run_bytesToString w ad 0 c [] (by simpa using run_loadCells_list (P := P) w ad [] (fun j v hv => by simp at hv))]
      rfl
  · obtain ⟨b, off, rfl, _, hc⟩ := h.2.2 (by omega)
    rw [run_convert_bytes_arg w src e hs he b off n c (xs.map fun x : Nat => (x : Int)) (by simpa using h.1) (fun i hi => by
      rw [hc i hi]
      have hl : i < xs.length := by rw [h.1]; exact hi
      simp [List.getD, hl]) dst hd, hnums]
end

/-- New memory: a slice of n bytes in a block from base on, which may be written. -/
def Own (w : World) (base : Nat) (e : TypeId) (A : Option Addr) (n c : Nat) (xs : List Nat) : Prop :=
  w.ownsRow base e 1 (.slice A n c) n (u8s xs) ∧ AllB xs
namespace Own
variable {w w' : World} {base n c : Nat} {e : TypeId} {A : Option Addr} {xs : List Nat}
theorem length (h : Own w base e A n c xs) : xs.length = n := by have := h.1.1; simpa [u8s] using this
theorem none_ (w : World) (base : Nat) (e : TypeId) : Own w base e none 0 0 [] := ⟨World.ownsRow_nil w base e 1, fun _ h => by simp at h⟩
/-- Where it lies. -/
theorem block (h : Own w base e A n c xs) (hn : 0 < n) : ∃ g, A = some ⟨g, 0, none⟩ ∧ base ≤ g ∧ g < w.heap.size := by
  rcases h.1.2 with ⟨hv, h0⟩ | ⟨g, cap, cur, hv, hg, hh, _⟩
  · omega
  · injection hv with h1 h2 h3
    exact ⟨g, h1, hg, (Array.getElem?_eq_some_iff.1 hh).1⟩
theorem bytes (h : Own w base e A n c xs) : Bytes w w.heap.size A n xs := by
  refine ⟨h.length, h.2, fun hn => ?_⟩
  obtain ⟨g, rfl, _, hlt⟩ := h.block hn
  refine ⟨g, 0, rfl, hlt, fun i hi => ?_⟩
  have hl : i < xs.length := by rw [h.length]; exact hi
  have hc := h.1.cells (g := g) rfl i (.int .u8 ((xs.getD i 0 : Nat) : Int)) (by rw [u8s_get]; simp [List.getD, hl])
  have ha : (⟨g, 0, none⟩ : Addr).add i = ⟨g, 0 + i, none⟩ := by unfold Addr.add; split <;> simp_all
  rwa [ha] at hc
theorem keep (h : Own w base e A n c xs) (k : Keep w w') : Own w' base e A n c xs :=
  ⟨h.1.kept (row := none) ⟨k.os, k.tape, k.output, k.size, fun i hi _ => k.block i hi⟩ (by
    cases hb : (Value.slice A n c).ownBlock with
    | none => exact Or.inl rfl
    | some g => exact Or.inr (by simp)), h.2⟩
end Own

theorem u8s_one (xs : List Nat) : ∀ u ∈ u8s xs, u.oneCell' = true := by
  intro u hu
  simp only [u8s, List.mem_map] at hu
  obtain ⟨x, _, rfl⟩ := hu
  rfl
theorem u8s_append (xs ys : List Nat) : u8s (xs ++ ys) = u8s xs ++ u8s ys := by simp [u8s]
theorem own_shape {w : World} {base e size n : Nat} {v : Value} {xs : List Value} (h : w.ownsRow base e size v n xs) : ∃ A c, v = .slice A n c := by
  rcases h.2 with ⟨rfl, rfl⟩ | ⟨g, cap, cur, rfl, _⟩
  · exact ⟨none, 0, rfl⟩
  · exact ⟨_, _, rfl⟩
theorem Bytes.cells {w : World} {B n b off : Nat} {xs : List Nat} (h : Bytes w B (some ⟨b, off, none⟩) n xs) (hn : 0 < n) : ∀ j u, (u8s xs)[j]? = some u → w.cell? ((⟨b, off, none⟩ : Addr).add j) = some u := by
  obtain ⟨b', off', e, _, hc⟩ := h.2.2 hn
  injection e with e
  injection e with e1 e2
  subst e1; subst e2
  intro j u hu
  rw [u8s_get] at hu
  have hj : j < xs.length := by
    rcases Nat.lt_or_ge j xs.length with hj | hj
    · exact hj
    · rw [List.getElem?_eq_none hj] at hu; cases hu
  have ha : (⟨b, off, none⟩ : Addr).add j = ⟨b, off + j, none⟩ := by unfold Addr.add; split <;> simp_all
  rw [ha, hc j (by rw [← h.1]; exact hj), ← hu]
  simp [List.getD, hj]

section
variable {P : Program}
/-- append(s, x...): s new memory (or nil), x any bytes. -/
theorem run_append_bytes {w : World} {base n c B m cx t e : Nat} {A A' : Option Addr} {xs ys : List Nat} (ht : P.underlying t = some (.slice e))
    (hi : (P.info? e).map (fun i => (i.zero, i.size, i.bytes)) = some (some (.int .u8 0), 1, 1)) (hown : Own w base e A n c xs) (hx : Bytes w B A' m ys) (hlen : n + m ≤ 140737488355328) (hbase : base ≤ w.heap.size) (ty : TypeId) :
    ∃ A2 c2 w', (Builtin.append_ #[t, t] ty #[.slice A n c, .slice A' m cx]).run P w = .ok (.slice A2 (n + m) c2) w' ∧ Own w' base e A2 (n + m) c2 (xs ++ ys) ∧ w.grownBy w' (Value.slice A n c).ownBlock ∧ ((Value.slice A2 (n + m) c2).ownBlock = (Value.slice A n c).ownBlock ∨ (Value.slice A2 (n + m) c2).ownBlock = some w.heap.size) := by
  obtain ⟨i0, hi0, hz0, hz1, hz2⟩ := info_parts hi
  have hb : (n + m) * 1 ≤ 140737488355328 := by omega
  have h63 : n + m ≤ maxLen := by unfold maxLen; omega
  have main : ∀ ad : Addr, A' = some ad → (∀ j u, (u8s ys)[j]? = some u → w.cell? (ad.add j) = some u) →
      ∃ A2 c2 w', (Builtin.append_ #[t, t] ty #[.slice A n c, .slice A' m cx]).run P w = .ok (.slice A2 (n + m) c2) w' ∧ Own w' base e A2 (n + m) c2 (xs ++ ys) ∧ w.grownBy w' (Value.slice A n c).ownBlock ∧ ((Value.slice A2 (n + m) c2).ownBlock = (Value.slice A n c).ownBlock ∨ (Value.slice A2 (n + m) c2).ownBlock = some w.heap.size) := by
    rintro ad rfl hc
    obtain ⟨v', w', hrun, h2, h3, _, h5⟩ := run_append_own_at (P := P) w base t ty e i0 (.int .u8 0) 1 1 ht hi0 hz0 hz1 hz2 rfl (by decide) _ n (u8s xs) hown.1 ad m cx (u8s ys) (by rw [u8s_length, hx.1, Nat.mul_one]) hc (u8s_one ys) h63 hb hbase
    obtain ⟨A2, c2, rfl⟩ := own_shape h2
    exact ⟨A2, c2, w', hrun, ⟨by rw [u8s_append]; exact h2, hown.2.append hx.2.1⟩, h3, h5⟩
  by_cases hm : m = 0
  · subst hm
    have hy : ys = [] := List.eq_nil_of_length_eq_zero hx.1
    subst hy
    cases A' with
    | some ad => exact main ad rfl (fun j u hu => by simp [u8s] at hu)
    | none =>
      refine ⟨A, c, w, ?_, by simpa using hown, World.grownBy.refl w _, Or.inl rfl⟩
      rcases hown.1.2 with ⟨hv, rfl⟩ | ⟨g, cap, cur, hv, _, _, hnc, _⟩
      · simp [Builtin.append_, run_underlying ht, sizeOf, typeInfo, hi0, Builtin.lenOf, Builtin.firstCells, hv]
      · injection hv with e1 _ e3
        subst e1; subst e3
        simp [Builtin.append_, run_underlying ht, sizeOf, typeInfo, hi0, Builtin.lenOf, Builtin.firstCells, hnc, storeCells]
  · obtain ⟨b, off, rfl, _, _⟩ := hx.2.2 (by omega)
    exact main _ rfl (hx.cells (by omega))
/-- .. at the operation. -/
theorem wp_append_bytes {w : World} {o : Oper} {a : Act} {K : Act → World → Prop} {Q : Exit → Act → World → Prop} (s x : Operand) (t : TypeId)
    (ho : o.op = .call { callee := .builtin .append, args := #[s, x], argTypes := #[t, t] }) {base n c B m cx e : Nat} {A A' : Option Addr} {xs ys : List Nat} (ht : P.underlying t = some (.slice e))
    (hi : (P.info? e).map (fun i => (i.zero, i.size, i.bytes)) = some (some (.int .u8 0), 1, 1)) (hs : a.eval s = .slice A n c) (hown : Own w base e A n c xs) (hx0 : a.eval x = .slice A' m cx) (hx : Bytes w B A' m ys) (hlen : n + m ≤ 140737488355328) (hbase : base ≤ w.heap.size)
    (h : ∀ A2 c2 w', Own w' base e A2 (n + m) c2 (xs ++ ys) → w.grownBy w' (Value.slice A n c).ownBlock → ((Value.slice A2 (n + m) c2).ownBlock = (Value.slice A n c).ownBlock ∨ (Value.slice A2 (n + m) c2).ownBlock = some w.heap.size) → K (a.put o.dst (.slice A2 (n + m) c2)) w') : o.wp P a w K Q := by
  obtain ⟨A2, c2, w', hr, h2, h3, h4⟩ := run_append_bytes (P := P) (cx := cx) ht hi hown hx hlen hbase o.type
  unfold Oper.wp execOp
  simp only [ho, resolve, invoke, builtin, Sem.run_bind, Sem.run_pure, Result.andThen_ok, List.map_toArray, List.map_cons, List.map_nil, hs, hx0, hr]
  exact h A2 c2 w' h2 h3 h4
theorem wpList_append_bytes {w : World} {ops : Array Oper} {rest : List Oper} {o : Oper} {a : Act} {Q : Exit → Act → World → Prop} (hgd : o.guard = none) (s x : Operand) (t : TypeId)
    (ho : o.op = .call { callee := .builtin .append, args := #[s, x], argTypes := #[t, t] }) {base n c B m cx e : Nat} {A A' : Option Addr} {xs ys : List Nat} (ht : P.underlying t = some (.slice e))
    (hi : (P.info? e).map (fun i => (i.zero, i.size, i.bytes)) = some (some (.int .u8 0), 1, 1)) (hs : a.eval s = .slice A n c) (hown : Own w base e A n c xs) (hx0 : a.eval x = .slice A' m cx) (hx : Bytes w B A' m ys) (hlen : n + m ≤ 140737488355328) (hbase : base ≤ w.heap.size)
    (h : ∀ A2 c2 w', Own w' base e A2 (n + m) c2 (xs ++ ys) → w.grownBy w' (Value.slice A n c).ownBlock → ((Value.slice A2 (n + m) c2).ownBlock = (Value.slice A n c).ownBlock ∨ (Value.slice A2 (n + m) c2).ownBlock = some w.heap.size) → wpList P ops Q rest (a.put o.dst (.slice A2 (n + m) c2)) w') : wpList P ops Q (o :: rest) a w :=
  wpList_plain hgd fun _ hK => wp_append_bytes s x t ho ht hi hs hown hx0 hx hlen hbase fun A2 c2 w' h2 h3 h4 => hK _ _ (h A2 c2 w' h2 h3 h4)
/-- One byte in a block of its own. -/
theorem Bytes.one (w : World) (v : Nat) (hv : v < 256) (t : TypeId) : Bytes (w.alloc (.cells #[.int .u8 (v : Int)] t)) (w.heap.size + 1) (some ⟨w.heap.size, 0, none⟩) 1 [v] :=
  ⟨rfl, fun x hx => by simp at hx; omega, fun _ => ⟨w.heap.size, 0, rfl, by omega, fun i hi => by
    obtain rfl : i = 0 := by omega
    rw [cell_of_row _ _ _ _ _ _ (heap_alloc_new w _)]
    rfl⟩⟩
theorem Own.alloc {w : World} {base n c : Nat} {e : TypeId} {A : Option Addr} {xs : List Nat} (h : Own w base e A n c xs) (o : Obj) : Own (w.alloc o) base e A n c xs := ⟨h.1.alloc o, h.2⟩
theorem Own.drew {w : World} {base n c : Nat} {e : TypeId} {A : Option Addr} {xs : List Nat} (h : Own w base e A n c xs) : Own w.drew base e A n c xs := ⟨h.1, h.2⟩
theorem Bytes.drew {w : World} {B n : Nat} {A : Option Addr} {xs : List Nat} (h : Bytes w B A n xs) : Bytes w.drew B A n xs := h
/-- What may turn when new memory is appended to lies from base on. -/
theorem Own.rowLe {w : World} {base n c : Nat} {e : TypeId} {A : Option Addr} {xs : List Nat} (h : Own w base e A n c xs) : ∀ k, (Value.slice A n c).ownBlock = some k → base ≤ k := fun k hk => (h.1.lt k hk).1
end

theorem u8s_zeros (n : Nat) : u8s (List.replicate n 0) = List.replicate n (.int .u8 0) := by simp [u8s]
theorem AllB.zeros (n : Nat) : AllB (List.replicate n 0) := fun x hx => by rw [(List.mem_replicate.1 hx).2]; decide
/-- make([]byte, n). -/
theorem run_make_bytes {P : Program} {t e : TypeId} (ht : P.underlying t = some (.slice e)) (hi : (P.info? e).map (fun i => (i.zero, i.size, i.bytes)) = some (some (.int .u8 0), 1, 1)) (n : Nat) (hn : n ≤ 140737488355328) (w : World) :
    (Instr.makeSlice t (.int .i64 (n : Int)) (.int .i64 (n : Int))).run P w = .ok (.slice (some ⟨w.heap.size, 0, none⟩) n n) (w.alloc (.cells (madeCells #[.int .u8 0] n) e)) := by
  obtain ⟨i0, hi0, hz0, hz1, hz2⟩ := info_parts hi
  have h := run_make (P := P) w t e i0 (.int .u8 0) ht hi0 hz0 .i64 .i64 n n (by omega) (Int.le_refl _) (by rw [hz2]; omega) (by omega)
  simpa [hz1, Value.cells] using h
theorem Own.made (w : World) (e : TypeId) (n : Nat) (hn : n ≤ 140737488355328) : Own (w.alloc (.cells (madeCells #[.int .u8 0] n) e)) w.heap.size e (some ⟨w.heap.size, 0, none⟩) n n (List.replicate n 0) := by
  refine ⟨?_, AllB.zeros n⟩
  have h := World.ownsRow_lit (w := w) (base := w.heap.size) (e := e) (size := 1) (madeCells #[.int .u8 0] n) n (Nat.le_refl _) (by unfold maxLen; omega) (by rw [size_madeCells]; omega)
  rwa [toList_madeCells_one, ← u8s_zeros] at h
/-- A slice literal. -/
theorem Own.lit (w : World) (e : TypeId) (n : Nat) (xs : List Nat) (cs : Array Value) (hc : cs = (u8s xs).toArray) (hl : xs.length = n) (hn : n ≤ 140737488355328) (hx : AllB xs) : Own (w.alloc (.cells cs e)) w.heap.size e (some ⟨w.heap.size, 0, none⟩) n n xs := by
  subst hc
  have h := World.ownsRow_lit (w := w) (base := w.heap.size) (e := e) (size := 1) (u8s xs).toArray n (Nat.le_refl _) (by unfold maxLen; omega) (by simp [u8s, hl])
  exact ⟨by simpa using h, hx⟩
theorem u8s_set (xs : List Nat) (i v : Nat) : (u8s xs).set i (.int .u8 (v : Int)) = u8s (xs.set i v) := by simp [u8s, List.map_set]
theorem AllB.set {xs : List Nat} (h : AllB xs) (i v : Nat) (hv : v < 256) : AllB (xs.set i v) := fun x hx => by
  rcases List.mem_or_eq_of_mem_set hx with h1 | h1
  · exact h x h1
  · rw [h1]; exact hv
/-- A store into new memory. -/
theorem Own.stored {w : World} {base e n c g i v : Nat} {xs : List Nat} (h : Own w base e (some ⟨g, 0, none⟩) n c xs) (hv : v < 256) : Own (w.setCell ⟨g, i, none⟩ (.int .u8 (v : Int))) base e (some ⟨g, 0, none⟩) n c (xs.set i v) :=
  ⟨by rw [← u8s_set]; exact (h.1.stored i _).1, h.2.set i v hv⟩
theorem Own.cell {w : World} {base e n c g i : Nat} {xs : List Nat} (h : Own w base e (some ⟨g, 0, none⟩) n c xs) (hi : i < n) : w.cell? ⟨g, i, none⟩ = some (.int .u8 ((xs.getD i 0 : Nat) : Int)) := by
  have hl : i < xs.length := by rw [h.length]; exact hi
  rw [h.1.cellAt i (by omega), u8s_get]
  simp [List.getD, hl]
theorem Own.frozen {w : World} {base e n c g : Nat} {xs : List Nat} (h : Own w base e (some ⟨g, 0, none⟩) n c xs) (i : Nat) : w.frozen? ⟨g, i, none⟩ = false := h.1.frozenAt i
/-- Another block is written. -/
theorem Own.far {w : World} {base e n c : Nat} {A : Option Addr} {xs : List Nat} (h : Own w base e A n c xs) {p : Addr} (hp : (Value.slice A n c).ownBlock ≠ some p.block) (v : Value) : Own (w.setCell p v) base e A n c xs :=
  ⟨h.1.kept (row := some p.block) ⟨rfl, rfl, rfl, by simp [World.setCell], fun i _ hi => Below.heap_setCell w p v i (fun e => hi (by rw [e]))⟩ (Or.inr hp), h.2⟩
theorem Own.lower {w : World} {base base' e n c : Nat} {A : Option Addr} {xs : List Nat} (h : Own w base e A n c xs) (hb : base' ≤ base) : Own w base' e A n c xs := by
  refine ⟨⟨h.1.1, ?_⟩, h.2⟩
  rcases h.1.2 with h1 | ⟨g, cap, cur, hv, hg, r⟩
  · exact Or.inl h1
  · exact Or.inr ⟨g, cap, cur, hv, by omega, r⟩
theorem Bytes.cut {w : World} {B n m : Nat} {A : Option Addr} {xs : List Nat} (h : Bytes w B A n xs) (hm : m ≤ n) : Bytes w B A m (xs.take m) := by
  refine ⟨by rw [List.length_take, h.1]; omega, h.2.1.take m, fun hp => ?_⟩
  obtain ⟨b, off, e, hb, hc⟩ := h.2.2 (by omega)
  refine ⟨b, off, e, hb, fun i hi => ?_⟩
  rw [hc i (by omega)]
  have hl : i < xs.length := by rw [h.1]; omega
  simp [List.getD, hl, hi]
theorem Bytes.alloc {w : World} {B n : Nat} {A : Option Addr} {xs : List Nat} (h : Bytes w B A n xs) (hB : B ≤ w.heap.size) (o : Obj) : Bytes (w.alloc o) B A n xs := h.below (Below.alloc (Below.refl _ _) hB o)
/-- A slice literal, its place said. -/
theorem Bytes.lit {w : World} {h : Nat} (hh : w.heap.size = h) (t : TypeId) (n : Nat) (xs : List Nat) (cs : Array Value) (hc : cs = (u8s xs).toArray) (hl : xs.length = n) (hn : n ≤ 140737488355328) (hx : AllB xs) : Bytes (w.alloc (.cells cs t)) (h + 1) (some ⟨h, 0, none⟩) n xs := by
  have hb := (Own.lit w t n xs cs hc hl hn hx).bytes
  rw [hh] at hb
  exact hb.mono (by simp [hh])
instance (xs : List Nat) : Decidable (AllB xs) := inferInstanceAs (Decidable (∀ x ∈ xs, x < 256))
end Go.Proofs.YtgelalbmhllccaaGreat
/- Arguments opened: slices of bytes, slices of slices of bytes. -/
namespace Go.Proofs.YtgelalbmhllccaaGreat
open Go.RowKit Go.ChangeShapes Go.WideShapes Go.Deep

/-- A slice of bytes as a value, and what it holds. -/
structure RowV where
  A : Option Addr
  n : Nat
  c : Nat
  xs : List Nat
def RowV.val (r : RowV) : Value := .slice r.A r.n r.c
/-- A slice of n slices of bytes at A, below block B. -/
def RowsAt (w : World) (B : Nat) (A : Option Addr) (n : Nat) (rs : List RowV) : Prop :=
  rs.length = n ∧ (∀ r ∈ rs, Bytes w B r.A r.n r.xs ∧ r.n ≤ 140737488351232 ∧ r.n ≤ r.c) ∧ (0 < n → ∃ b off, A = some ⟨b, off, none⟩ ∧ b < B ∧ ∀ i r, rs[i]? = some r → w.cell? ⟨b, off + i, none⟩ = some (.slice r.A r.n r.c))
theorem RowsAt.below {w w' : World} {B n : Nat} {A : Option Addr} {rs : List RowV} (h : RowsAt w B A n rs) (k : Below B w w') : RowsAt w' B A n rs :=
  ⟨h.1, fun r hr => ⟨(h.2.1 r hr).1.below k, (h.2.1 r hr).2⟩, fun hn => by
    obtain ⟨b, off, e, hb, hc⟩ := h.2.2 hn
    exact ⟨b, off, e, hb, fun i r hi => (k.cell (p := ⟨b, off + i, none⟩) hb).trans (hc i r hi)⟩⟩
theorem RowsAt.keep {w w' : World} {B n : Nat} {A : Option Addr} {rs : List RowV} (h : RowsAt w B A n rs) (hB : B ≤ w.heap.size) (k : Keep w w') : RowsAt w' B A n rs := h.below (Below.mono k hB)
theorem RowsAt.at_ {w : World} {B n : Nat} {A : Option Addr} {rs : List RowV} (h : RowsAt w B A n rs) {k : Nat} (hk : k < n) :
    ∃ b off r, A = some ⟨b, off, none⟩ ∧ b < B ∧ rs[k]? = some r ∧ w.cell? ⟨b, off + k, none⟩ = some (.slice r.A r.n r.c) ∧ Bytes w B r.A r.n r.xs ∧ r.n ≤ 140737488351232 ∧ r.n ≤ r.c := by
  obtain ⟨b, off, e, hb, hc⟩ := h.2.2 (by omega)
  have hl : k < rs.length := by rw [h.1]; exact hk
  have hr := List.getElem?_eq_getElem hl
  have hm := h.2.1 _ (List.getElem_mem hl)
  exact ⟨b, off, rs[k], e, hb, hr, hc k _ hr, hm.1, hm.2⟩
def rowsOf (rs : List RowV) : List (List Nat) := rs.map (·.xs)
theorem rowsOf_getD {rs : List RowV} {k : Nat} {r : RowV} (h : rs[k]? = some r) : (rowsOf rs).getD k [] = r.xs := by
  rw [rowsOf, List.getD_eq_getElem?_getD, List.getElem?_map, h]; rfl

theorem RowsAt.alloc {w : World} {B n : Nat} {A : Option Addr} {rs : List RowV} (h : RowsAt w B A n rs) (hB : B ≤ w.heap.size) (o : Obj) : RowsAt (w.alloc o) B A n rs := h.below (Below.alloc (Below.refl _ _) hB o)
/-- A literal of slices, its place said. -/
theorem RowsAt.lit {w : World} {h : Nat} (hh : w.heap.size = h) (t : TypeId) (n : Nat) (rs : List RowV) (cs : Array Value) (hc : cs = (rs.map RowV.val).toArray) (hl : rs.length = n) (hr : ∀ r ∈ rs, Bytes w h r.A r.n r.xs ∧ r.n ≤ 140737488351232 ∧ r.n ≤ r.c) :
    RowsAt (w.alloc (.cells cs t)) (h + 1) (some ⟨h, 0, none⟩) n rs := by
  subst hh
  refine ⟨hl, fun r h1 => ⟨((hr r h1).1.alloc (Nat.le_refl _) _).mono (by omega), (hr r h1).2⟩, fun _ => ⟨_, 0, rfl, by omega, fun i r hi => ?_⟩⟩
  rw [cell_of_row _ _ _ _ _ _ (heap_alloc_new w _), hc, Nat.zero_add]
  simp [hi, RowV.val]

section
variable {H : Type} {enc : TypeId × Value → H} {P : Program} {W : World}

theorem nats_of {zs : List Int} (h : ∀ n ∈ zs, (Lit.int .u8 n).wf = true) : ∃ xs : List Nat, zs = xs.map (fun x : Nat => (x : Int)) ∧ AllB xs := by
  refine ⟨zs.map Int.toNat, ?_, ?_⟩
  · rw [List.map_map]
    have : ∀ n ∈ zs, ((fun x : Nat => (x : Int)) ∘ Int.toNat) n = n := fun n hn => by
      have := bounds_u8 (h n hn)
      simp; omega
    rw [List.map_congr_left this, List.map_id']
  · intro x hx
    obtain ⟨n, hn, rfl⟩ := List.mem_map.1 hx
    have := bounds_u8 (h n hn)
    omega
/-- A reading of a slice of bytes. -/
theorem bytes_of {t e : TypeId} (ht : P.underlying t = some (.slice e)) (he : P.underlying e = some (.int .u8)) (hc : P.cellsOf e = 1) (hb : P.bytesOf e = 1)
    {v : Value} {d : DataW H} {p : List MemPlace} {fuel : Nat} (h : DataW.trod enc P W 0 (fun _ => true) true fuel t [v] = some (d, p)) (hs : ∀ n ∈ d.weights P t, n ≤ reachBytes) :
    ∃ (A : Option Addr) (n c : Nat) (xs : List Nat), v = .slice A n c ∧ Bytes W W.heap.size A n xs ∧ n ≤ 140737488351232 ∧ n ≤ c := by
  rcases open_ints ht he hc h with ⟨hcs, _⟩ | ⟨a, len, cap, zs, hcs, _, hl, hm, hz, hx, hcell, hwz⟩
  · simp at hcs
    exact ⟨none, 0, 0, [], hcs, Bytes.nil _ _ _, by omega, by omega⟩
  · simp at hcs
    have hz' : zs.length = cap := by simpa using hz
    simp only [Prod.mk.injEq] at hx
    obtain ⟨hd, _⟩ := hx
    have hsz : cap * 1 ≤ reachBytes := by
      have h1 := hs (((lits .u8 (zs.take len) : List (DataW H)).length + (lits .u8 (zs.drop len) : List (DataW H)).length) * P.bytesOf e) (by rw [hd]; simp [DataW.weights, ht])
      rw [hb] at h1
      simp only [lits, List.length_map, List.length_take, List.length_drop] at h1
      omega
    have hr : reachBytes = 140737488351232 := by decide
    obtain ⟨xs, hxs, hall⟩ := nats_of hwz
    have hlen : xs.length = cap := by rw [← hz', hxs, List.length_map]
    refine ⟨some a, len, cap, xs.take len, hcs, ⟨by rw [List.length_take]; omega, hall.take len, fun hn => ?_⟩, by omega, hl⟩
    obtain ⟨b, off, spot⟩ := a
    have h0 := hcell 0 (by omega)
    have hspot : spot = none := by simpa [Addr.add] using World.cell?_spot h0
    subst hspot
    refine ⟨b, off, rfl, World.block_lt_of_cell? W _ (show W.cell? ⟨b, off, none⟩ = _ by simpa [Addr.add] using h0), fun i hi => ?_⟩
    have h1 := hcell i (by omega)
    have ha : (⟨b, off, none⟩ : Addr).add i = ⟨b, off + i, none⟩ := by unfold Addr.add; split <;> simp_all
    rw [ha] at h1
    rw [h1, hxs]
    have hi2 : i < xs.length := by omega
    simp [List.getD, hi2, hi]
theorem weights_all {e : TypeId} : ∀ {ds : List (DataW H)} {d : DataW H}, d ∈ ds → ∀ n ∈ d.weights P e, n ∈ DataW.weightsAll P e ds
  | d0 :: ds, d, hd, n, hn => by
    rw [DataW.weightsAll, List.mem_append]
    rcases List.mem_cons.1 hd with h | h
    · subst h; exact Or.inl hn
    · exact Or.inr (weights_all h n hn)
end
end Go.Proofs.YtgelalbmhllccaaGreat
/- Arguments opened: slices of structs whose fields are one cell each. -/
namespace Go.Proofs.YtgelalbmhllccaaGreat
open Go.RowKit Go.ChangeShapes Go.WideShapes Go.Deep

/-- A slice of n structs of k fields at A, below block B: field j of struct i is l i j. -/
def FieldsAt (w : World) (B : Nat) (A : Option Addr) (n k : Nat) (l : List (List Value)) : Prop :=
  l.length = n ∧ (∀ r ∈ l, r.length = k) ∧ (0 < n → ∃ b off, A = some ⟨b, off, none⟩ ∧ b < B ∧ ∀ (i : Nat) (r : List Value) (j : Nat) (v : Value), l[i]? = some r → r[j]? = some v → w.cell? ⟨b, off + (i * k + j), none⟩ = some v)
theorem FieldsAt.below {w w' : World} {B n k : Nat} {A : Option Addr} {l : List (List Value)} (h : FieldsAt w B A n k l) (kp : Below B w w') : FieldsAt w' B A n k l :=
  ⟨h.1, h.2.1, fun hn => by
    obtain ⟨b, off, e, hb, hc⟩ := h.2.2 hn
    exact ⟨b, off, e, hb, fun i r j v hi hj => (kp.cell (p := ⟨b, off + (i * k + j), none⟩) hb).trans (hc i r j v hi hj)⟩⟩
theorem FieldsAt.keep {w w' : World} {B n k : Nat} {A : Option Addr} {l : List (List Value)} (h : FieldsAt w B A n k l) (hB : B ≤ w.heap.size) (kp : Keep w w') : FieldsAt w' B A n k l := h.below (Below.mono kp hB)
section
variable {H : Type} {enc : TypeId × Value → H} {P : Program} {W : World}
theorem weights_each {ts : List TypeId} : ∀ {ds : List (DataW H)} {j : Nat} {t : TypeId} {d : DataW H}, ts[j]? = some t → ds[j]? = some d → ∀ n ∈ d.weights P t, n ∈ DataW.weightsEach P ts ds := fun h1 h2 => DataW.weights_mem_each h1 h2
end
end Go.Proofs.YtgelalbmhllccaaGreat
/- Arguments that are arrays of bytes, by value: of two, of four. -/
namespace Go.Proofs.YtgelalbmhllccaaGreat
open Go.RowKit Go.ChangeShapes Go.WideShapes
set_option linter.unusedVariables false
section
variable {H : Type} {enc : TypeId × Value → H} {P : Program} {W : World} {base : Nat} {sp : Nat → Bool} {held : Bool}
theorem u8_lit (a : Int) (h : (Lit.int .u8 a).wf = true) : ∃ n : Nat, a = n ∧ n < 256 := by
  have h2 : 0 ≤ a ∧ a ≤ 255 := by simpa [Lit.wf, IntKind.min, IntKind.max, IntKind.signed, IntKind.bits] using h
  obtain ⟨n, rfl⟩ := Int.eq_ofNat_of_zero_le h2.1
  exact ⟨n, rfl, by omega⟩
theorem byte_cell {e : TypeId} {fuel : Nat} {c : Value} {y : DataW H × List MemPlace} (he : P.underlying e = some (.int .u8)) (h : DataW.trod enc P W base sp held fuel e [c] = some y) : ∃ n : Nat, c = .int .u8 (n : Int) ∧ n < 256 := by
  obtain ⟨a, ea, _, wa⟩ := DataW.trod_int he h
  obtain ⟨n, rfl, hn⟩ := u8_lit a wa
  simp at ea
  exact ⟨n, ea, hn⟩
end
end Go.Proofs.YtgelalbmhllccaaGreat
/- An argument that is a struct of two bytes, two slices of slices of bytes and a slice of bytes. -/
namespace Go.Proofs.YtgelalbmhllccaaGreat
open Go.RowKit Go.ChangeShapes Go.WideShapes Go.Deep
section
variable {H : Type} {enc : TypeId × Value → H} {P : Program} {W : World}
/-- A reading of a slice of slices of bytes. -/
theorem rows_of {t u e : TypeId} (ht : P.underlying t = some (.slice u)) (hu : P.underlying u = some (.slice e)) (hcu : P.cellsOf u = 1) (hbu : 1 ≤ P.bytesOf u) (he : P.underlying e = some (.int .u8)) (hc : P.cellsOf e = 1) (hb : P.bytesOf e = 1)
    {v : Value} {d : DataW H} {p : List MemPlace} {fuel : Nat} (h : DataW.trod enc P W 0 (fun _ => true) true fuel t [v] = some (d, p)) (hs : ∀ n ∈ d.weights P t, n ≤ reachBytes) :
    ∃ (A : Option Addr) (n c : Nat) (rs : List RowV), v = .slice A n c ∧ RowsAt W W.heap.size A n rs ∧ n ≤ 140737488351232 ∧ n ≤ c := by
  rcases open_slice1 ht hcu h with ⟨hcs, _⟩ | ⟨a, n, c, m, f2, V, D, Pl, hcs, _, hl, hm, hmm, hx, hi⟩
  · simp at hcs
    exact ⟨none, 0, 0, [], hcs, ⟨rfl, fun r hr => by simp at hr, fun h => absurd h (by omega)⟩, by omega, by omega⟩
  · simp at hcs
    have hmm' : m = c := by simpa using hmm
    simp only [Prod.mk.injEq] at hx
    obtain ⟨hde, _⟩ := hx
    have hr : reachBytes = 140737488351232 := by decide
    have hn : n ≤ 140737488351232 := by
      have h1 := hs ((((List.range n).map D).length + ((List.range (m - n)).map fun j => D (n + j)).length) * P.bytesOf u) (by rw [hde]; simp [DataW.weights, ht])
      simp only [List.length_map, List.length_range] at h1
      have h2 : n * 1 ≤ (n + (m - n)) * P.bytesOf u := Nat.mul_le_mul (by omega) hbu
      omega
    have each : ∀ i, i < n → ∃ r : RowV, V i = .slice r.A r.n r.c ∧ Bytes W W.heap.size r.A r.n r.xs ∧ r.n ≤ 140737488351232 ∧ r.n ≤ r.c := by
      intro i hin
      obtain ⟨_, h2⟩ := hi i (by omega)
      obtain ⟨A', n', c', xs, e1, e2, e3, e4⟩ := bytes_of hu he hc hb h2 fun k hk => hs k (by
        rw [hde]
        simp only [DataW.weights, ht, List.mem_cons, List.mem_append]
        exact Or.inr (Or.inl (weights_all (List.mem_map.2 ⟨i, List.mem_range.2 hin, rfl⟩) k hk)))
      exact ⟨⟨A', n', c', xs⟩, e1, e2, e3, e4⟩
    have : Inhabited RowV := ⟨⟨none, 0, 0, []⟩⟩
    obtain ⟨R, hR⟩ := choose_lt each
    refine ⟨some a, n, c, (List.range n).map R, hcs, ⟨by simp, fun r hr => ?_, fun hpos => ?_⟩, hn, hl⟩
    · obtain ⟨i, hin, rfl⟩ := List.mem_map.1 hr
      have := hR i (List.mem_range.1 hin)
      exact ⟨this.2.1, this.2.2⟩
    · obtain ⟨b, off, spot⟩ := a
      have h0 := (hi 0 (by omega)).1
      have hspot : spot = none := by simpa [Addr.add] using World.cell?_spot h0
      subst hspot
      refine ⟨b, off, rfl, World.block_lt_of_cell? W _ (show W.cell? ⟨b, off, none⟩ = _ by simpa [Addr.add] using h0), fun i r hir => ?_⟩
      have hin : i < n := by
        rcases Nat.lt_or_ge i n with h | h
        · exact h
        · rw [List.getElem?_eq_none (by simpa using h)] at hir; cases hir
      have h1 := (hi i (by omega)).1
      have ha : (⟨b, off, none⟩ : Addr).add i = ⟨b, off + i, none⟩ := by unfold Addr.add; split <;> simp_all
      rw [ha] at h1
      rw [h1, (hR i hin).1]
      simp [hin] at hir
      rw [← hir]
/-- An argument that is a struct whose fields are one cell each. -/
theorem arg_fields {t : TypeId} {fs : Array Field} (ht : P.underlying t = some (.struct fs)) (hone : oneCellFields P fs = true) (hC : P.cellsOf t = fs.size)
    {ts : List TypeId} {ds : List (DataW H)} (hsz : (DataW.weightsEach P ts ds).all (· ≤ reachBytes) = true) {j : Nat} (hj : ts[j]? = some t) {v : Value} {d : DataW H} {p : List MemPlace} (hd : ds[j]? = some d)
    {base : Nat} (hv : Value.okWide P W .any base t v) (h : DataW.Trod enc P W 0 (fun _ => true) true t v d p) :
    ∃ cs : List Value, v = .agg cs.toArray ∧ cs.length = fs.size ∧ ∀ (i : Nat) (f : Field), fs[i]? = some f → ∃ (u : Value) (d : DataW H) (p : List MemPlace) (m : Nat), cs[i]? = some u ∧ DataW.trod enc P W 0 (fun _ => true) true m f.type [u] = some (d, p) ∧ ∀ q ∈ d.weights P f.type, q ≤ reachBytes := by
  have hone' := hone_of hone
  obtain ⟨cs, rfl, hl⟩ : ∃ cs : List Value, v = .agg cs.toArray ∧ cs.length = fs.size := by
    simp only [Value.okWide, ht] at hv
    obtain ⟨cs, h1, h2, _⟩ := hv
    exact ⟨cs.toList, by rw [h1], by rw [Array.length_toList, h2, hC]⟩
  obtain ⟨fuel, hf⟩ := h
  obtain ⟨xs, k, _, hxy, _, hxl, hff⟩ := DataW.trod_struct ht hf
  simp only [Prod.mk.injEq] at hxy
  have hw : ∀ q ∈ d.weights P t, q ≤ reachBytes := fun q hq => by
    have := List.all_eq_true.1 hsz q (DataW.weights_mem_each hj hd q hq)
    simpa using this
  refine ⟨cs, rfl, hl, fun i f hif => ?_⟩
  have hi : i < fs.size := (Array.getElem?_eq_some_iff.1 hif).1
  obtain ⟨ho, hc1⟩ := hone' i f hif
  have g := hff i f hif
  have hcl : (Value.agg cs.toArray).cells.toList = cs := by simp [Value.cells]
  rw [hcl, ho, hc1, take1_drop cs i undef (by omega), List.getElem?_eq_getElem (by omega)] at g
  refine ⟨cs.getD i undef, xs[i].1, xs[i].2, k, by simp [List.getD, List.getElem?_eq_getElem (show i < cs.length by omega)], g, fun q hq => hw q ?_⟩
  rw [hxy.1]
  simp only [DataW.weights, ht]
  exact weights_each (j := i) (t := f.type) (d := xs[i].1) (by rw [List.getElem?_map]; simp [hif]) (by rw [List.getElem?_map, List.getElem?_eq_getElem (by omega)]; rfl) q hq
end
end Go.Proofs.YtgelalbmhllccaaGreat
/- Arguments opened: slices of Booleans; fields that are slices of bytes. -/
namespace Go.Proofs.YtgelalbmhllccaaGreat
open Go.RowKit Go.ChangeShapes Go.WideShapes Go.Deep
set_option linter.unusedVariables false
set_option linter.unusedSimpArgs false
/-- A slice of Booleans. -/
def BoolsAt (w : World) (B : Nat) (A : Option Addr) (n : Nat) : Prop := 0 < n → ∃ b off, A = some ⟨b, off, none⟩ ∧ b < B ∧ ∀ i, i < n → ∃ p : Bool, w.cell? ⟨b, off + i, none⟩ = some (.bool p)
section
variable {H : Type} {enc : TypeId × Value → H} {P : Program} {W : World}
end
end Go.Proofs.YtgelalbmhllccaaGreat
/- Arguments of stage 15's statements: a beginning; a trip. -/
namespace Go.Proofs.YtgelalbmhllccaaGreat
open Go.RowKit Go.ChangeShapes Go.WideShapes Go.Deep
set_option linter.unusedVariables false
section
variable {H : Type} {enc : TypeId × Value → H} {P : Program} {W : World}
/-- A field that is a slice of Booleans, read. -/
theorem bools_of {t e : TypeId} (ht : P.underlying t = some (.slice e)) (he : P.underlying e = some .bool) (hc : P.cellsOf e = 1) {u : Value} {d : DataW H} {p : List MemPlace} {fuel : Nat} (h : DataW.trod enc P W 0 (fun _ => true) true fuel t [u] = some (d, p)) :
    ∃ (A : Option Addr) (n c : Nat), u = .slice A n c ∧ BoolsAt W W.heap.size A n ∧ n ≤ c := by
  rcases open_bools ht he hc h with ⟨hcs, _⟩ | ⟨a, len, cap, zs, hcs, _, hl, hm, hx, hcell⟩
  · simp at hcs
    exact ⟨none, 0, 0, hcs, fun h => absurd h (by omega), by omega⟩
  · simp at hcs
    refine ⟨some a, len, cap, hcs, fun hn => ?_, hl⟩
    obtain ⟨b, off, spot⟩ := a
    have h0 := hcell 0 (by omega)
    have hspot : spot = none := by simpa [Addr.add] using World.cell?_spot h0
    subst hspot
    refine ⟨b, off, rfl, World.block_lt_of_cell? W _ (show W.cell? ⟨b, off, none⟩ = _ by simpa [Addr.add] using h0), fun i hi => ⟨zs i, ?_⟩⟩
    have h1 := hcell i (by omega)
    have ha : (⟨b, off, none⟩ : Addr).add i = ⟨b, off + i, none⟩ := by unfold Addr.add; split <;> simp_all
    rwa [ha] at h1
/-- Two bytes, two slices of bytes, a slice of slices of bytes, a slice of Booleans. -/
theorem arg_trip {t tr tu tb e eb : TypeId} {f0 f1 f2 f3 f4 f5 : Field} (ht : P.underlying t = some (.struct #[f0, f1, f2, f3, f4, f5])) (hone : oneCellFields P #[f0, f1, f2, f3, f4, f5] = true) (hC : P.cellsOf t = 6)
    (hf0 : f0.type = e) (hf1 : f1.type = e) (hf2 : f2.type = tu) (hf3 : f3.type = tu) (hf4 : f4.type = tr) (hf5 : f5.type = tb) (hr : P.underlying tr = some (.slice tu)) (hu : P.underlying tu = some (.slice e)) (hcu : P.cellsOf tu = 1) (hbu : 1 ≤ P.bytesOf tu) (he : P.underlying e = some (.int .u8)) (hc : P.cellsOf e = 1) (hb : P.bytesOf e = 1)
    (htb : P.underlying tb = some (.slice eb)) (heb : P.underlying eb = some .bool) (hcb : P.cellsOf eb = 1)
    {ts : List TypeId} {ds : List (DataW H)} (hsz : (DataW.weightsEach P ts ds).all (· ≤ reachBytes) = true) {j : Nat} (hj : ts[j]? = some t) {v : Value} {d : DataW H} {p : List MemPlace} (hd : ds[j]? = some d)
    {base : Nat} (hv : Value.okWide P W .any base t v) (h : DataW.Trod enc P W 0 (fun _ => true) true t v d p) :
    ∃ (G S n1 c1 n2 c2 n3 c3 n4 c4 : Nat) (A1 A2 A3 A4 : Option Addr) (xs ys : List Nat) (rs : List RowV), v = .agg #[.int .u8 (G : Int), .int .u8 (S : Int), .slice A1 n1 c1, .slice A2 n2 c2, .slice A3 n3 c3, .slice A4 n4 c4] ∧ G < 256 ∧ S < 256 ∧ (Bytes W W.heap.size A1 n1 xs ∧ n1 ≤ 140737488351232 ∧ n1 ≤ c1) ∧ (Bytes W W.heap.size A2 n2 ys ∧ n2 ≤ 140737488351232 ∧ n2 ≤ c2) ∧ (RowsAt W W.heap.size A3 n3 rs ∧ n3 ≤ 140737488351232) ∧ BoolsAt W W.heap.size A4 n4 ∧ n4 ≤ c4 := by
  obtain ⟨cs, rfl, hl, hf⟩ := arg_fields ht hone (by rw [hC]; rfl) hsz hj hd hv h
  match cs, hl with
  | [v0, v1, v2, v3, v4, v5], _ =>
    obtain ⟨u0, d0, p0, m0, e0, t0, w0⟩ := hf 0 f0 rfl
    obtain ⟨u1, d1, p1, m1, e1, t1, w1⟩ := hf 1 f1 rfl
    obtain ⟨u2, d2, p2, m2, e2, t2, w2⟩ := hf 2 f2 rfl
    obtain ⟨u3, d3, p3, m3, e3, t3, w3⟩ := hf 3 f3 rfl
    obtain ⟨u4, d4, p4, m4, e4, t4, w4⟩ := hf 4 f4 rfl
    obtain ⟨u5, d5, p5, m5, e5, t5, w5⟩ := hf 5 f5 rfl
    simp at e0 e1 e2 e3 e4 e5
    subst e0 e1 e2 e3 e4 e5
    rw [hf0] at t0
    rw [hf1] at t1
    rw [hf2] at t2 w2
    rw [hf3] at t3 w3
    rw [hf4] at t4 w4
    rw [hf5] at t5
    obtain ⟨G, rfl, hG⟩ := byte_cell he t0
    obtain ⟨S, rfl, hS⟩ := byte_cell he t1
    obtain ⟨A1, n1, c1, xs, rfl, b1, l1, k1⟩ := bytes_of hu he hc hb t2 w2
    obtain ⟨A2, n2, c2, ys, rfl, b2, l2, k2⟩ := bytes_of hu he hc hb t3 w3
    obtain ⟨A3, n3, c3, rs, rfl, r3, l3, _⟩ := rows_of hr hu hcu hbu he hc hb t4 w4
    obtain ⟨A4, n4, c4, rfl, b4, k4⟩ := bools_of htb heb hcb t5
    exact ⟨G, S, n1, c1, n2, c2, n3, c3, n4, c4, A1, A2, A3, A4, xs, ys, rs, rfl, hG, hS, ⟨b1, l1, k1⟩, ⟨b2, l2, k2⟩, ⟨r3, l3⟩, b4, k4⟩
end
end Go.Proofs.YtgelalbmhllccaaGreat
/- Numbers' forms to the base 256, as lists of numbers. -/
namespace Go.Proofs.YtgelalbmhllccaaGreat

/-- The s lowest digits of n, the highest first. -/
def formN (s n : Nat) : List Nat := (List.range s).map fun i => n / 256 ^ (s - 1 - i) % 256
theorem formN_length (s n : Nat) : (formN s n).length = s := by simp [formN]
theorem formN_all (s n : Nat) : AllB (formN s n) := fun x hx => by
  obtain ⟨i, _, rfl⟩ := List.mem_map.1 hx
  exact Nat.mod_lt _ (by decide)
/-- The last digit, and those ahead of it. -/
theorem formN_succ (s n : Nat) : formN (s + 1) n = formN s (n / 256) ++ [n % 256] := by
  apply List.ext_getElem?
  intro i
  rcases Nat.lt_trichotomy i s with h | h | h
  · rw [List.getElem?_append_left (by rw [formN_length]; exact h)]
    simp only [formN, List.getElem?_map, List.getElem?_range (show i < s + 1 by omega), List.getElem?_range h, Option.map_some]
    congr 1
    rw [Nat.div_div_eq_div_mul, show s + 1 - 1 - i = (s - 1 - i) + 1 by omega, Nat.pow_succ, Nat.mul_comm]
  · subst h
    rw [List.getElem?_append_right (by rw [formN_length]; exact Nat.le_refl _), formN_length]
    simp [formN]
  · rw [List.getElem?_eq_none (by rw [formN_length]; omega), List.getElem?_eq_none (by rw [List.length_append, formN_length]; simp; omega)]
/-- What digits say. -/
def valN (l : List Nat) : Nat := l.foldl (fun a x => 256 * a + x) 0
theorem valN_snoc (l : List Nat) (x : Nat) : valN (l ++ [x]) = 256 * valN l + x := by simp [valN]
theorem valN_form (s n : Nat) : valN (formN s n) = n % 256 ^ s := by
  induction s generalizing n with
  | zero => simp [formN, valN, Nat.mod_one]
  | succ s ih =>
    rw [formN_succ, valN_snoc, ih, Nat.pow_succ, Nat.mul_comm (256 ^ s) 256, Nat.mod_mul]
    omega
theorem list_snoc {P : List Nat → Prop} (h0 : P []) (hs : ∀ l x, P l → P (l ++ [x])) (l : List Nat) : P l := by
  rw [← List.reverse_reverse l]
  induction l.reverse with
  | nil => simpa using h0
  | cons x t ih => rw [List.reverse_cons]; exact hs _ _ ih
theorem valN_lt (l : List Nat) : AllB l → valN l < 256 ^ l.length := by
  induction l using list_snoc with
  | h0 => simp [valN]
  | hs l x ih =>
    intro h
    rw [valN_snoc, List.length_append, List.length_singleton, Nat.pow_succ]
    have h1 := ih fun y hy => h y (by simp [hy])
    have h2 := h x (by simp)
    omega
theorem valN_take_succ (l : List Nat) (i : Nat) (hi : i < l.length) : valN (l.take (i + 1)) = 256 * valN (l.take i) + l.getD i 0 := by
  rw [List.take_add_one, List.getElem?_eq_getElem hi]
  simp only [Option.toList_some, valN_snoc]
  rw [List.getD_eq_getElem?_getD, List.getElem?_eq_getElem hi]; rfl
/-- The form while it is laid from behind: its last j digits, noughts ahead. -/
def laidN (s n j : Nat) : List Nat := (List.range s).map fun i => if s - j ≤ i then n / 256 ^ (s - 1 - i) % 256 else 0
theorem laidN_length (s n j : Nat) : (laidN s n j).length = s := by simp [laidN]
theorem laidN_zero (s n : Nat) : laidN s n 0 = List.replicate s 0 := by
  apply List.ext_getElem?
  intro i
  rcases Nat.lt_or_ge i s with h | h
  · simp only [laidN, List.getElem?_map, List.getElem?_range h, Option.map_some, List.getElem?_replicate, if_pos h]
    rw [if_neg (by omega)]
  · rw [List.getElem?_eq_none (by rw [laidN_length]; omega), List.getElem?_eq_none (by simp; omega)]
theorem laidN_all (s n : Nat) : laidN s n s = formN s n := by
  simp only [laidN, formN]
  refine List.map_congr_left fun i hi => ?_
  rw [if_pos (by omega)]
theorem laidN_set (s n j : Nat) (hj : j < s) : (laidN s n j).set (s - 1 - j) (n / 256 ^ j % 256) = laidN s n (j + 1) := by
  apply List.ext_getElem?
  intro i
  rw [List.getElem?_set, laidN_length]
  rcases Nat.lt_or_ge i s with h | h
  · simp only [laidN, List.getElem?_map, List.getElem?_range h, Option.map_some]
    by_cases e : s - 1 - j = i
    · rw [if_pos e, if_pos (by omega), if_pos (by omega), show s - 1 - i = j by omega]
    · rw [if_neg e]
      by_cases h1 : s - j ≤ i
      · rw [if_pos h1, if_pos (by omega)]
      · rw [if_neg h1, if_neg (by omega)]
  · rw [if_neg (by omega)]
    simp [laidN, h]
theorem set_append_right (xs ys : List Nat) (i v : Nat) : (xs ++ ys).set (xs.length + i) v = xs ++ ys.set i v := by
  rw [List.set_append_right _ _ (by omega), Nat.add_sub_cancel_left]
end Go.Proofs.YtgelalbmhllccaaGreat
/- Layer 9, plainly: symbols of a chunk, a chunk of symbols, the chunks of a stream. -/
namespace Go.Proofs.YtgelalbmhllccaaGreat
set_option linter.unusedVariables false
/-- A generation may be of g and s. -/
def MayG (g s : Int) : Prop := 1 ≤ g ∧ g ≤ 255 ∧ 1 ≤ s ∧ s ≤ 65535 ∧ 5 ≤ g * s
instance (g s : Int) : Decidable (MayG g s) := by unfold MayG; infer_instance
/-- All bytes of a chunk's symbols. -/
def allN (G : Nat) (xs : List Nat) : List Nat := formN 4 xs.length ++ xs ++ List.replicate (G - 4 - xs.length) 0
def cutN (s i : Nat) (ys : List Nat) : List Nat := (ys.drop (i * s)).take s
def cutsN (g s : Nat) (ys : List Nat) : List (List Nat) := (List.range g).map fun i => cutN s i ys
def layN (g s : Nat) (xs : List Nat) : List (List Nat) := cutsN g s (allN (g * s) xs)
theorem allN_len {G : Nat} {xs : List Nat} (h : xs.length + 4 ≤ G) : (allN G xs).length = G := by
  simp [allN, formN_length]; omega
theorem allN_all {G : Nat} {xs : List Nat} (h : AllB xs) : AllB (allN G xs) := ((formN_all _ _).append h).append (AllB.zeros _)
theorem cutsN_len (g s : Nat) (ys : List Nat) : (cutsN g s ys).length = g := by simp [cutsN]
theorem cutsN_succ (g s : Nat) (ys : List Nat) : cutsN (g + 1) s ys = cutsN g s ys ++ [cutN s g ys] := by simp [cutsN, List.range_succ]
theorem cutN_len {g s i : Nat} {ys : List Nat} (h : ys.length = g * s) (hi : i < g) : (cutN s i ys).length = s := by
  have : (i + 1) * s ≤ g * s := Nat.mul_le_mul_right s hi
  rw [Nat.add_mul, Nat.one_mul] at this
  simp [cutN]; omega
theorem cutN_all {s i : Nat} {ys : List Nat} (h : AllB ys) : AllB (cutN s i ys) := fun x hx => h x (List.mem_of_mem_drop (List.mem_of_mem_take hx))
theorem cutsN_flat (s : Nat) (ys : List Nat) : ∀ g, (cutsN g s ys).flatten = ys.take (g * s)
  | 0 => by simp [cutsN]
  | g + 1 => by rw [cutsN_succ, List.flatten_append, cutsN_flat s ys g, Nat.add_mul, Nat.one_mul, List.take_add]; simp [cutN]
theorem flat_cut {s : Nat} : ∀ {R : List (List Nat)}, (∀ r ∈ R, r.length = s) → R.flatten.length = R.length * s
  | [], _ => by simp
  | r :: R, h => by
    rw [List.flatten_cons, List.length_append, flat_cut (R := R) fun x hx => h x (by simp [hx]), h r (by simp), List.length_cons, Nat.add_mul, Nat.one_mul, Nat.add_comm]
/-- What symbols tell: their error, their chunk. -/
def headN (ys : List Nat) : Nat := valN (ys.take 4)
def okSym (g s : Nat) (R : List (List Nat)) : Prop := R.length = g ∧ ∀ r ∈ R, r.length = s
def okForm (G : Nat) (ys : List Nat) : Prop := 1 ≤ headN ys ∧ headN ys ≤ G - 4 ∧ ∀ x ∈ ys.drop (4 + headN ys), x = 0
instance (g s : Nat) (R : List (List Nat)) : Decidable (okSym g s R) := by unfold okSym; infer_instance
instance (G : Nat) (ys : List Nat) : Decidable (okForm G ys) := by unfold okForm; infer_instance
def takeE (g s : Nat) (R : List (List Nat)) : Int := if ¬ okSym g s R then 21 else if ¬ okForm (g * s) R.flatten then 5 else 0
def takeV (g s : Nat) (R : List (List Nat)) : List Nat := if takeE g s R = 0 then (R.flatten.drop 4).take (headN R.flatten) else []
/-- Of a chunk's symbols, its chunk. -/
theorem take_lay {g s : Nat} {xs : List Nat} (h0 : 1 ≤ xs.length) (h1 : xs.length + 4 ≤ g * s) (h2 : g * s < 4294967296) : takeE g s (layN g s xs) = 0 ∧ takeV g s (layN g s xs) = xs := by
  have hl := allN_len h1
  have hok : okSym g s (layN g s xs) := ⟨cutsN_len _ _ _, fun r hr => by
    obtain ⟨i, hi, rfl⟩ := List.mem_map.1 hr
    exact cutN_len hl (List.mem_range.1 hi)⟩
  have hf : (layN g s xs).flatten = allN (g * s) xs := by rw [layN, cutsN_flat, List.take_of_length_le (by rw [hl]; exact Nat.le_refl _)]
  have hh : headN (allN (g * s) xs) = xs.length := by
    rw [headN, allN, List.append_assoc, List.take_left' (formN_length 4 _), valN_form]
    exact Nat.mod_eq_of_lt (by omega)
  have hd : (allN (g * s) xs).drop 4 = xs ++ List.replicate (g * s - 4 - xs.length) 0 := by
    rw [allN, List.append_assoc, List.drop_left' (formN_length 4 _)]
  have hfo : okForm (g * s) (allN (g * s) xs) := by
    refine ⟨by rw [hh]; exact h0, by rw [hh]; omega, fun x hx => ?_⟩
    rw [hh, ← List.drop_drop, hd, List.drop_left' rfl] at hx
    exact (List.mem_replicate.1 hx).2
  have he : takeE g s (layN g s xs) = 0 := by rw [takeE, if_neg (not_not_intro hok), hf, if_neg (not_not_intro hfo)]
  refine ⟨he, ?_⟩
  rw [takeV, if_pos he, hf, hh, hd, List.take_left' rfl]
/-- The chunks behind t places, and where the open bytes begin. -/
def isEnd (room : Nat) (cuts : List Nat) (f t : Nat) : Prop := t - f = room ∨ f < t ∧ t ∈ cuts
instance (room : Nat) (cuts : List Nat) (f t : Nat) : Decidable (isEnd room cuts f t) := by unfold isEnd; infer_instance
def pieceN (xs : List Nat) (f t : Nat) : List Nat := (xs.drop f).take (t - f)
def chunkN (room : Nat) (cuts xs : List Nat) : Nat → List (List Nat) × Nat
  | 0 => ([], 0)
  | t + 1 => if isEnd room cuts (chunkN room cuts xs t).2 t then ((chunkN room cuts xs t).1 ++ [pieceN xs (chunkN room cuts xs t).2 t], t) else chunkN room cuts xs t
section
variable {room : Nat} {cuts xs : List Nat}
theorem chunkN_succ (t : Nat) : chunkN room cuts xs (t + 1) = if isEnd room cuts (chunkN room cuts xs t).2 t then ((chunkN room cuts xs t).1 ++ [pieceN xs (chunkN room cuts xs t).2 t], t) else chunkN room cuts xs t := rfl
theorem chunk_from (h1 : 1 ≤ room) : ∀ t, (chunkN room cuts xs t).2 ≤ t - 1 ∧ t ≤ (chunkN room cuts xs t).2 + room
  | 0 => ⟨Nat.zero_le _, Nat.zero_le _⟩
  | t + 1 => by
    obtain ⟨a, b⟩ := chunk_from h1 t
    rw [chunkN_succ]
    by_cases h : isEnd room cuts (chunkN room cuts xs t).2 t
    · rw [if_pos h]
      exact ⟨by show t ≤ t; exact Nat.le_refl _, by show t + 1 ≤ t + room; omega⟩
    · rw [if_neg h]
      have hn : ¬ t - (chunkN room cuts xs t).2 = room := fun e => h (Or.inl e)
      exact ⟨by omega, by omega⟩
theorem piece_len {f t : Nat} (hf : f ≤ t) (ht : t ≤ xs.length) : (pieceN xs f t).length = t - f := by
  rw [pieceN, List.length_take, List.length_drop]; omega
/-- Chunks and what is open are the stream. -/
theorem chunk_flat (h1 : 1 ≤ room) : ∀ t, t ≤ xs.length + 1 → (chunkN room cuts xs t).1.flatten = xs.take (chunkN room cuts xs t).2 ∧ ∀ r ∈ (chunkN room cuts xs t).1, 1 ≤ r.length ∧ r.length ≤ room
  | 0, _ => ⟨by simp [chunkN], fun r hr => by simp [chunkN] at hr⟩
  | t + 1, h => by
    obtain ⟨i1, i2⟩ := chunk_flat h1 t (by omega)
    obtain ⟨a, b⟩ := chunk_from (cuts := cuts) (xs := xs) h1 t
    rw [chunkN_succ]
    by_cases he : isEnd room cuts (chunkN room cuts xs t).2 t
    · rw [if_pos he]
      have hf : (chunkN room cuts xs t).2 < t := by
        rcases he with e | e
        · omega
        · exact e.1
      have hpl := piece_len (xs := xs) (Nat.le_of_lt hf) (by omega)
      refine ⟨?_, fun r hr => ?_⟩
      · show ((chunkN room cuts xs t).1 ++ [pieceN xs (chunkN room cuts xs t).2 t]).flatten = xs.take t
        rw [List.flatten_append, i1]
        conv => rhs; rw [show t = (chunkN room cuts xs t).2 + (t - (chunkN room cuts xs t).2) by omega, List.take_add]
        simp [pieceN]
      · rcases List.mem_append.1 hr with hr | hr
        · exact i2 r hr
        · rw [List.mem_singleton] at hr; subst hr
          rw [hpl]; omega
    · rw [if_neg he]; exact ⟨i1, i2⟩
/-- A cut is a chunk's end. -/
theorem chunk_cut (h1 : 1 ≤ room) {c : Nat} (hc : c ∈ cuts) : c = 0 ∨ (chunkN room cuts xs (c + 1)).2 = c ∧ ∃ l, (chunkN room cuts xs (c + 1)).1 = l ++ [pieceN xs (chunkN room cuts xs c).2 c] := by
  rcases Nat.eq_zero_or_pos c with e | e
  · exact Or.inl e
  · right
    obtain ⟨a, b⟩ := chunk_from (cuts := cuts) (xs := xs) h1 c
    have he : isEnd room cuts (chunkN room cuts xs c).2 c := Or.inr ⟨by omega, hc⟩
    rw [chunkN_succ, if_pos he]
    exact ⟨rfl, _, rfl⟩
/-- Bytes behind the places change nothing. -/
theorem chunk_behind (ys : List Nat) : ∀ t, t ≤ xs.length + 1 → chunkN room cuts (xs ++ ys) t = chunkN room cuts xs t
  | 0, _ => rfl
  | t + 1, h => by
    rw [chunkN_succ, chunkN_succ, chunk_behind ys t (by omega)]
    have e : pieceN (xs ++ ys) (chunkN room cuts xs t).2 t = pieceN xs (chunkN room cuts xs t).2 t := by
      rw [pieceN, pieceN]
      rcases Nat.le_total (chunkN room cuts xs t).2 xs.length with h2 | h2
      · rw [List.drop_append_of_le_length h2, List.take_append_of_le_length (by rw [List.length_drop]; omega)]
      · have : t - (chunkN room cuts xs t).2 = 0 := by omega
        rw [this, List.take_zero, List.take_zero]
    rw [e]
end
end Go.Proofs.YtgelalbmhllccaaGreat
