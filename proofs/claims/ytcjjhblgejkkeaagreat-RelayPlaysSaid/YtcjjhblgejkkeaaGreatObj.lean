/- Objects with footprints: what turns within a set of blocks; rows that lie in a set of blocks. -/
import Derived.Test.YtcjjhblgejkkeaaGreatRows2
import Derived.Laws.Slices
namespace Go.Proofs.YtcjjhblgejkkeaaGreat
open Go.RowKit
/-- Nothing outside of F has turned; new blocks may lie behind. -/
structure Turned (F : Nat → Prop) (w w' : World) : Prop where
  os : w'.os = w.os
  tape : w'.tape = w.tape
  output : w'.output = w.output
  size : w.heap.size ≤ w'.heap.size
  block : ∀ k, k < w.heap.size → ¬ F k → w'.heap[k]? = w.heap[k]?
namespace Turned
variable {F F' : Nat → Prop} {W w w' a b c : World}
theorem refl (F : Nat → Prop) (w : World) : Turned F w w := ⟨rfl, rfl, rfl, Nat.le_refl _, fun _ _ _ => rfl⟩
theorem of_keep (k : Keep w w') : Turned F w w' := ⟨k.os, k.tape, k.output, k.size, fun i hi _ => k.block i hi⟩
theorem of_grown {row : Option Nat} (k : w.grownBy w' row) (h : ∀ i, row = some i → F i) : Turned F w w' :=
  ⟨k.os, k.tape, k.output, k.size, fun i hi hn => k.block i hi fun e => hn (h i e.symm)⟩
theorem trans (h : Turned F a b) (k : Turned F' b c) (hF : ∀ i, F' i → F i ∨ a.heap.size ≤ i) : Turned F a c :=
  ⟨k.os.trans h.os, k.tape.trans h.tape, k.output.trans h.output, Nat.le_trans h.size k.size, fun i hi hn => (k.block i (Nat.lt_of_lt_of_le hi h.size) fun e => by
    rcases hF i e with e | e
    · exact hn e
    · omega).trans (h.block i hi hn)⟩
theorem mono (h : Turned F w w') (hF : ∀ i, i < w.heap.size → F i → F' i) : Turned F' w w' := ⟨h.os, h.tape, h.output, h.size, fun i hi hn => h.block i hi fun e => hn (hF i hi e)⟩
theorem keep (k : Turned F w w') (h : Keep W w) (hF : ∀ i, F i → W.heap.size ≤ i) : Keep W w' :=
  Below.trans h ⟨k.os, k.tape, k.output, k.size, fun i hi => k.block i (Nat.lt_of_lt_of_le hi h.size) fun e => by have := hF i e; omega⟩
theorem keep_new (k : Turned F w w') (hF : ∀ i, F i → w.heap.size ≤ i) : Keep w w' := k.keep (Keep.refl w) hF
theorem cell (k : Turned F w w') {p : Addr} {v : Value} (h : w.cell? p = some v) (hn : ¬ F p.block) : w'.cell? p = some v :=
  (World.cell?_of_block (k.block p.block (World.block_lt_of_cell? w p h) hn)).trans h
theorem then_keep (k : Turned F w w') (h : Keep w' W) : Turned F w W := k.trans (of_keep (F := fun _ => False) h) (fun _ e => e.elim)
theorem set (w : World) (p : Addr) (v : Value) (h : F p.block) : Turned F w (w.setCell p v) :=
  ⟨rfl, rfl, rfl, by simp [World.setCell], fun i _ hi => Below.heap_setCell w p v i (fun e => hi (by rw [e]; exact h))⟩
theorem grown_none (k : Turned F w w') (hF : ∀ i, i < w.heap.size → ¬ F i) : w.grownBy w' none := ⟨k.os, k.tape, k.output, k.size, fun i hi _ => k.block i hi (hF i hi)⟩
/-- Of a block's row. -/
theorem owns {base n size : Nat} {e : TypeId} {v : Value} {xs : List Value} (h : w.ownsRow base e size v n xs) (k : Turned F w w') (hn : ∀ b, v.ownBlock = some b → ¬ F b) : w'.ownsRow base e size v n xs := by
  refine ⟨h.1, ?_⟩
  rcases h.2 with hv | ⟨g, cap, cur, hv, hb, hg, rest⟩
  · exact Or.inl hv
  · exact Or.inr ⟨g, cap, cur, hv, hb, (k.block g (Array.getElem?_eq_some_iff.1 hg).1 (hn g (by rw [hv]; rfl))).trans hg, rest⟩
end Turned
theorem Own.turned {F : Nat → Prop} {w w' : World} {base n c : Nat} {e : TypeId} {A : Option Addr} {xs : List Nat} (h : Own w base e A n c xs) (k : Turned F w w') (hn : ∀ b, (Value.slice A n c).ownBlock = some b → ¬ F b) : Own w' base e A n c xs :=
  ⟨k.owns h.1 hn, h.2⟩
theorem OwnRows.turned {F : Nat → Prop} {w w' : World} {base n c : Nat} {e : TypeId} {A : Option Addr} {rs : List RowV} (h : OwnRows w base e A n c rs) (k : Turned F w w') (hn : ∀ b, (Value.slice A n c).ownBlock = some b → ¬ F b) : OwnRows w' base e A n c rs :=
  k.owns h hn
/-- A row of bytes in blocks of F. -/
def LiesIn (w : World) (F : Nat → Prop) (r : RowV) : Prop :=
  r.xs.length = r.n ∧ AllB r.xs ∧ r.n ≤ r.c ∧ (0 < r.n → ∃ b off, r.A = some ⟨b, off, none⟩ ∧ F b ∧ ∀ i, i < r.n → w.cell? ⟨b, off + i, none⟩ = some (.int .u8 ((r.xs.getD i 0 : Nat) : Int)))
namespace LiesIn
variable {F F' G : Nat → Prop} {w w' : World} {r : RowV}
theorem bytes {B : Nat} (h : LiesIn w F r) (hB : ∀ b, F b → b < B) : Bytes w B r.A r.n r.xs := ⟨h.1, h.2.1, fun hp => by
  obtain ⟨b, off, e, hb, hc⟩ := h.2.2.2 hp
  exact ⟨b, off, e, hB b hb, hc⟩⟩
theorem turned (h : LiesIn w F r) (k : Turned G w w') (hd : ∀ b, F b → ¬ G b) : LiesIn w' F r := ⟨h.1, h.2.1, h.2.2.1, fun hp => by
  obtain ⟨b, off, e, hb, hc⟩ := h.2.2.2 hp
  exact ⟨b, off, e, hb, fun i hi => k.cell (hc i hi) (hd b hb)⟩⟩
theorem mono (h : LiesIn w F r) (hF : ∀ b, F b → F' b) : LiesIn w F' r := ⟨h.1, h.2.1, h.2.2.1, fun hp => by
  obtain ⟨b, off, e, hb, hc⟩ := h.2.2.2 hp
  exact ⟨b, off, e, hF b hb, hc⟩⟩
theorem nothing (w : World) (F : Nat → Prop) : LiesIn w F ⟨none, 0, 0, []⟩ := ⟨rfl, fun _ h => by simp at h, Nat.le_refl _, fun h => absurd h (by simp)⟩
theorem of_bytes {B : Nat} (h : Bytes w B r.A r.n r.xs) (hc : r.n ≤ r.c) : LiesIn w (· < B) r := ⟨h.1, h.2.1, hc, fun hp => by
  obtain ⟨b, off, e, hb, hc⟩ := h.2.2 hp
  exact ⟨b, off, e, hb, hc⟩⟩
end LiesIn
theorem own_le' {w : World} {base n c : Nat} {e : TypeId} {A : Option Addr} {xs : List Nat} (h : Own w base e A n c xs) : n ≤ c := by
  rcases h.1.2 with ⟨hv, h0⟩ | ⟨g, cap, cur, hv, _, _, hle, _⟩
  · omega
  · injection hv with _ _ h3; omega
theorem Own.lies {w : World} {base n c : Nat} {e : TypeId} {A : Option Addr} {xs : List Nat} (h : Own w base e A n c xs) : LiesIn w (fun b => (Value.slice A n c).ownBlock = some b) ⟨A, n, c, xs⟩ :=
  ⟨h.length, h.2, own_le' h, fun hp => by
    obtain ⟨g, rfl, _, _⟩ := h.block hp
    refine ⟨g, 0, rfl, rfl, fun i hi => ?_⟩
    rw [Nat.zero_add]; exact h.cell hi⟩
/-- What a list of rows holds. -/
def rowsXs (rs : List RowV) : List (List Nat) := rs.map (·.xs)
/-- A slice of rows in blocks of F, its own block among them. -/
def RowsIn (w : World) (F : Nat → Prop) (A : Option Addr) (n : Nat) (rs : List RowV) : Prop :=
  rs.length = n ∧ (∀ r ∈ rs, LiesIn w F r) ∧ (0 < n → ∃ b off, A = some ⟨b, off, none⟩ ∧ F b ∧ ∀ i r, rs[i]? = some r → w.cell? ⟨b, off + i, none⟩ = some r.val)
namespace RowsIn
variable {F F' G : Nat → Prop} {w w' : World} {A : Option Addr} {n : Nat} {rs : List RowV}
theorem turned (h : RowsIn w F A n rs) (k : Turned G w w') (hd : ∀ b, F b → ¬ G b) : RowsIn w' F A n rs := ⟨h.1, fun r hr => (h.2.1 r hr).turned k hd, fun hp => by
  obtain ⟨b, off, e, hb, hc⟩ := h.2.2 hp
  exact ⟨b, off, e, hb, fun i r hi => k.cell (hc i r hi) (hd b hb)⟩⟩
theorem mono (h : RowsIn w F A n rs) (hF : ∀ b, F b → F' b) : RowsIn w F' A n rs := ⟨h.1, fun r hr => (h.2.1 r hr).mono hF, fun hp => by
  obtain ⟨b, off, e, hb, hc⟩ := h.2.2 hp
  exact ⟨b, off, e, hF b hb, hc⟩⟩
theorem nothing (w : World) (F : Nat → Prop) (A : Option Addr) : RowsIn w F A 0 [] := ⟨rfl, fun _ h => by simp at h, fun h => absurd h (by omega)⟩
theorem of_own {base c : Nat} {e : TypeId} (h : OwnRows w base e A n c rs) (hr : ∀ r ∈ rs, LiesIn w F r) (hF : ∀ b, (Value.slice A n c).ownBlock = some b → F b) : RowsIn w F A n rs := by
  refine ⟨h.length, hr, fun hn => ?_⟩
  obtain ⟨g, rfl, _, hlt⟩ := h.block hn
  refine ⟨g, 0, rfl, hF g rfl, fun i r hi => ?_⟩
  have hc := World.ownsRow.cells h (g := g) rfl i r.val (by rw [List.getElem?_map, hi]; rfl)
  have ha : (⟨g, 0, none⟩ : Addr).add i = ⟨g, 0 + i, none⟩ := by unfold Addr.add; split <;> simp_all
  rwa [ha] at hc
theorem at_ (h : RowsIn w F A n rs) {k : Nat} (hk : k < n) : ∃ b off r, A = some ⟨b, off, none⟩ ∧ F b ∧ rs[k]? = some r ∧ w.cell? ⟨b, off + k, none⟩ = some (.slice r.A r.n r.c) ∧ LiesIn w F r := by
  obtain ⟨b, off, e, hb, hc⟩ := h.2.2 (by omega)
  have hl : k < rs.length := by rw [h.1]; exact hk
  exact ⟨b, off, rs[k], e, hb, List.getElem?_eq_getElem hl, hc k _ (List.getElem?_eq_getElem hl), h.2.1 _ (List.getElem_mem hl)⟩
end RowsIn
/-- The address of a slice cut at its head. -/
def dropA (A : Option Addr) (c s : Nat) : Option Addr := if c = s then A else A.map (·.add s)
theorem dropA_some (b off c s : Nat) (h : s < c) : dropA (some ⟨b, off, none⟩) c s = some ⟨b, off + s, none⟩ := by
  rw [dropA, if_neg (by omega)]
  simp only [Option.map_some, Addr.add]
  split <;> simp_all
theorem run_drop {P : Program} {t : TypeId} {z : Value} {m : Nat} (ht : P.underlying t = some (.slice (P.elem t))) (hi : (P.info? (P.elem t)).map (fun i => (i.zero, i.size, i.bytes)) = some (some z, 1, m)) (n c s : Nat) (A : Option Addr) (hs : s ≤ n) (w : World) :
    (Instr.slice t (.slice A n c) (some (.int .i64 (s : Int))) none none).run P w = .ok (.slice (dropA A c s) (n - s) (c - s)) w := by
  obtain ⟨i0, hi0, hz0, hz1, hz2⟩ := info_parts hi
  rw [run_slice_l (P := P) (w := w) t A n c ht .i64 s (by omega) (by omega)]
  simp [sizeOf, typeInfo, hi0, hz1, sliced, dropA]
theorem RowsIn.drop {F : Nat → Prop} {w : World} {A : Option Addr} {n c s : Nat} {rs : List RowV} (h : RowsIn w F A n rs) (hc : n ≤ c) : RowsIn w F (dropA A c s) (n - s) (rs.drop s) := by
  refine ⟨by rw [List.length_drop, h.1], fun r hr => h.2.1 r (List.mem_of_mem_drop hr), fun hp => ?_⟩
  obtain ⟨b, off, rfl, hb, hcell⟩ := h.2.2 (by omega)
  refine ⟨b, off + s, dropA_some b off c s (by omega), hb, fun i r hi => ?_⟩
  rw [List.getElem?_drop] at hi
  rw [Nat.add_assoc]; exact hcell (s + i) r hi
end Go.Proofs.YtcjjhblgejkkeaaGreat
