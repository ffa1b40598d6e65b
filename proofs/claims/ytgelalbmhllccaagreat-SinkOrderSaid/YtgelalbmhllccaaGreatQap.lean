/- Contracts of the document's own queue. -/
import Derived.Test.YtgelalbmhllccaaGreatQab
import Derived.Test.YtgelalbmhllccaaGreatQan
import Derived.Test.YtgelalbmhllccaaGreatQad
import Derived.Lib.SlBytesConst
import Derived.Maps.OwnOps
import Derived.Maps.Views
import Derived.Maps.OwnSet
import Derived.Maps.AppendAt
import Derived.Test.YtgelalbmhllccaaGreatQao
import Derived.BigQuiet
import Derived.Test.YtgelalbmhllccaaGreatQaj
import Derived.StillTailTactics
namespace Go.Proofs.YtgelalbmhllccaaGreat
open Go.RowKit
set_option linter.unusedVariables false
set_option maxRecDepth 100000 in
set_option maxHeartbeats 1000000 in
theorem rsame_any (n m ca cb : Nat) (A A' : Option Addr) (F F' : Nat → Prop) (rs rs' : List RowV) (w : World) (h : RowsIn w F A n rs) (h' : RowsIn w F' A' m rs') (hF : ∀ b, F b → b < w.heap.size) (hF' : ∀ b, F' b → b < w.heap.size) (hn : n ≤ 140737488355328) :
    Calls Tryz.prog 14 #[.slice A n ca, .slice A' m cb] w fun e w' => e = .returned (.bool (decide (rowsXs rs = rowsXs rs'))) ∧ ∃ k, w' = w.drewN k := by
  have H := Lib.hid h
  have H' := Lib.hid h'
  by_cases hnm : n = m
  · subst hnm
    clear h h'
    go_enter Tryz.func14, Tryz.ntmps14
    go_wp2_with fail
    go_loopw [5] (fun i wr => ∃ (j k : Nat), j ≤ n ∧ i = .int .i64 j ∧ wr = w.drewN k ∧ rowsXs (rs.take j) = rowsXs (rs'.take j)) (fun i _ => n - (intOf i).toNat)
    case atStart => exact ⟨0, 0, by omega, rfl, rfl, rfl⟩
    case round =>
      obtain ⟨j, k, hj, rfl, rfl, he⟩ := hrel
      have HE := Lib.hid he
      clear he
      by_cases hlt : j < n
      · obtain ⟨b, off, r, rfl, hb, hr, hc, hl⟩ := H.out.at_ hlt
        obtain ⟨b', off', r', rfl, hb', hr', hc', hl'⟩ := H'.out.at_ hlt
        have HR := Lib.hid hr
        have HR' := Lib.hid hr'
        have t1 := hl.str hF
        have t2 := hl'.str hF'
        have d1 : ∀ q, (w.drewN q).cell? ⟨b, off + j, none⟩ = some (.slice r.A r.n r.c) := fun _ => hc
        have d2 : ∀ q, (w.drewN q).cell? ⟨b', off' + j, none⟩ = some (.slice r'.A r'.n r'.c) := fun _ => hc'
        have e1 : (0 : Int) ≤ (j : Int) := Int.natCast_nonneg _
        have e2 : (j : Int) < (n : Int) := by omega
        have hall := hl.2.1
        have hall' := hl'.2.1
        by_cases hx : r.xs = r'.xs
        · have q0 := strN_eq hx
          have HX := Lib.hid hx
          clear hr hr' hl hl' hc hc' hall hall' hx
          go_wp2_with fail
          go_quiet (fail)
          go_wp2_with fail
          go_roundw
          case rel => exact ⟨j + 1, k + nq, by omega, by go_num, rfl, by rw [rowsXs_take HR.out, rowsXs_take HR'.out, HE.out, HX.out]⟩
          case measure => simp [intOf]; omega
        · have q0 := strN_ne hall hall' hx
          have HC : Hid (decide (rowsXs rs = rowsXs rs') = false) := by show _ = _; exact decide_eq_false (rowsXs_ne hr hr' hx)
          clear hr hr' hl hl' hc hc' hall hall' hx
          go_wp2_with fail
          go_quiet (fail)
          go_wp2_with fail
          go_ret
          exact ⟨by rw [HC.out]; rfl, _, World.drewN_drewN ..⟩
      · obtain rfl : j = n := by omega
        have HC : Hid (decide (rowsXs rs = rowsXs rs') = true) := by
          show _ = _
          have e := HE.out
          rw [List.take_of_length_le (by rw [H.out.1]; exact Nat.le_refl _), List.take_of_length_le (by rw [H'.out.1]; exact Nat.le_refl _)] at e
          exact decide_eq_true e
        go_wp2_with fail
        go_ret
        exact ⟨by rw [HC.out]; rfl, _, rfl⟩
  · have HC : Hid (decide (rowsXs rs = rowsXs rs') = false) := by
      show _ = _
      exact decide_eq_false fun e => hnm (by rw [← h.1, ← h'.1]; have := congrArg List.length e; simpa [rowsXs] using this)
    have b1 : ((n : Int) != (m : Int)) = true := by rw [bne_iff_ne]; omega
    clear h h' hnm
    go_enter Tryz.func14, Tryz.ntmps14
    go_wp2_with fail
    go_ret
    exact ⟨by rw [HC.out]; rfl, 0, rfl⟩
end Go.Proofs.YtgelalbmhllccaaGreat
/- The document's examples of layer 9: awake. -/
namespace Go.Proofs.YtgelalbmhllccaaGreat
open Go.RowKit
set_option linter.unusedVariables false
set_option linter.unusedSimpArgs false
theorem Keep.ob {W w : World} (h : Keep W w) (o : Obj) : Keep W (w.alloc o) := Below.alloc h (Below.size h) o
theorem Bytes.up {w w' : World} {A : Option Addr} {n : Nat} {xs : List Nat} (h : Bytes w w.heap.size A n xs) (k : Keep w w') : Bytes w' w'.heap.size A n xs := (h.keep (Nat.le_refl _) k).mono k.size
end Go.Proofs.YtgelalbmhllccaaGreat
/- Words for the walks of stage 9's statements. -/
namespace Go.Proofs.YtgelalbmhllccaaGreat
open Go.RowKit
set_option linter.unusedVariables false
set_option linter.unusedSimpArgs false
theorem run_head {P : Program} {t : TypeId} {z : Value} {q : Nat} (ht : P.underlying t = some (.slice (P.elem t))) (hi : (P.info? (P.elem t)).map (fun i => (i.zero, i.size, i.bytes)) = some (some z, 1, q)) (n m c : Nat) (A : Option Addr) (h : n ≤ c) (w : World) :
    (Instr.slice t (.slice A m c) none (some (.int .i64 (n : Int))) none).run P w = .ok (.slice A n c) w := by
  obtain ⟨i0, hi0, hz0, hz1, hz2⟩ := info_parts hi
  rw [run_slice_h (P := P) (w := w) t A m c ht .i64 n (by omega) (by omega)]
  have ha : A.map (fun x : Addr => x.add 0) = A := by
    cases A with
    | none => rfl
    | some a =>
      obtain ⟨b, off, spot⟩ := a
      simp [Addr.add]
  simp [sizeOf, typeInfo, hi0, hz1, sliced, ha]
theorem infoInt : (Tryz.prog.info? 3).map (fun i => (i.zero, i.size, i.bytes)) = some (some (.int .i64 0), 1, 8) := by kernel_rfl
set_option maxRecDepth 100000 in
theorem head_bytes (n m c : Nat) (A : Option Addr) (h : n ≤ c) (w : World) : (Instr.slice 43 (.slice A m c) none (some (.int .i64 (n : Int))) none).run Tryz.prog w = .ok (.slice A n c) w :=
  run_head (by kernel_rfl) info5 n m c A h w
theorem RowsAt.head {w : World} {B n k : Nat} {A : Option Addr} {rs : List RowV} (h : RowsAt w B A n rs) (hk : k ≤ n) : RowsAt w B A k (rs.take k) :=
  ⟨by rw [List.length_take, h.1]; omega, fun r hr => h.2.1 r (List.mem_of_mem_take hr), fun hp => by
    obtain ⟨b, off, e, hb, hc⟩ := h.2.2 (by omega)
    exact ⟨b, off, e, hb, fun i r hi => hc i r (by rw [List.getElem?_take] at hi; split at hi <;> first | exact hi | cases hi)⟩⟩
theorem IntsAt.head {w : World} {B n k : Nat} {A : Option Addr} {l : List Int} (h : IntsAt w B A n l) (hk : k ≤ n) : IntsAt w B A k (l.take k) :=
  ⟨by rw [List.length_take, h.1]; omega, fun hp => by
    obtain ⟨b, off, e, hb, hc⟩ := h.2 (by omega)
    exact ⟨b, off, e, hb, fun i z hi => hc i z (by rw [List.getElem?_take] at hi; split at hi <;> first | exact hi | cases hi)⟩⟩
/-- Two cells of its own. -/
def Pair2 (w : World) (g : Nat) (u v : Value) (t : TypeId) : Prop := w.heap[g]? = some (.cells #[u, v] t (0, 0))
namespace Pair2
variable {w w' : World} {g : Nat} {u v : Value} {t : TypeId}
theorem new (w : World) (u v : Value) (t : TypeId) : Pair2 (w.alloc (.cells #[u, v] t)) w.heap.size u v t := heap_alloc_new w _
theorem cell0 (h : Pair2 w g u v t) : w.cell? ⟨g, 0, none⟩ = some u := by unfold Pair2 at h; simp [World.cell?, h]
theorem cell1 (h : Pair2 w g u v t) : w.cell? ⟨g, 1, none⟩ = some v := by unfold Pair2 at h; simp [World.cell?, h]
theorem free (h : Pair2 w g u v t) (i : Nat) : w.frozen? ⟨g, i, none⟩ = false := by unfold Pair2 at h; simp [World.frozen?, h]
theorem lt (h : Pair2 w g u v t) : g < w.heap.size := lt_of_block h
theorem keep (h : Pair2 w g u v t) (k : Keep w w') : Pair2 w' g u v t := (k.block g (lt_of_block h)).trans h
theorem put0 {x : Value} (h : Pair2 w g u v t) : Pair2 (w.setCell ⟨g, 0, none⟩ x) g x v t := by
  unfold Pair2 at h ⊢; simp [World.setCell, Array.getElem?_modify, h]
theorem put1 {x : Value} (h : Pair2 w g u v t) : Pair2 (w.setCell ⟨g, 1, none⟩ x) g u x t := by
  unfold Pair2 at h ⊢; simp [World.setCell, Array.getElem?_modify, h]
end Pair2
end Go.Proofs.YtgelalbmhllccaaGreat
/- PadWhole, plainly: where chunks begin, what they are; and its memory: ints appended, a map of places. -/
namespace Go.Proofs.YtgelalbmhllccaaGreat
open Go.RowKit Go.Maps
set_option linter.unusedVariables false
set_option linter.unusedSimpArgs false
section
variable {room : Nat} {cs xs : List Nat}
end
/-- Cuts counted round, in order. -/
def Rising (n : Nat) (cs : List Nat) (last : Nat) : Prop := (∀ x ∈ cs, x ≤ last) ∧ last ≤ n ∧ ∀ (i j x y : Nat), i ≤ j → cs[i]? = some x → cs[j]? = some y → x ≤ y
theorem Rising.more {n last r : Nat} {cs : List Nat} (h : Rising n cs last) (hr : last + r ≤ n) : Rising n (cs ++ [last + r]) (last + r) := by
  refine ⟨fun x hx => ?_, hr, fun i j x y hij hi hj => ?_⟩
  · rcases List.mem_append.1 hx with hx | hx
    · have := h.1 x hx; omega
    · rw [List.mem_singleton] at hx; omega
  · rcases Nat.lt_or_ge j cs.length with h1 | h1
    · rw [List.getElem?_append_left (by omega)] at hi
      rw [List.getElem?_append_left h1] at hj
      exact h.2.2 i j x y hij hi hj
    · rw [List.getElem?_append_right h1] at hj
      have hy : y = last + r := by
        rcases Nat.eq_zero_or_pos (j - cs.length) with e | e
        · rw [e] at hj; simpa using hj.symm
        · rw [List.getElem?_eq_none (by simp; omega)] at hj; cases hj
      have hx : x ∈ cs ++ [last + r] := List.mem_of_getElem? hi
      rcases List.mem_append.1 hx with hx | hx
      · have := h.1 x hx; omega
      · rw [List.mem_singleton] at hx; omega
/-- Ints of one's own. -/
def OwnI (w : World) (base : Nat) (A : Option Addr) (n c : Nat) (l : List Nat) : Prop := w.ownsRow base 3 1 (.slice A n c) n (l.map fun x : Nat => Value.int .i64 (x : Int))
namespace OwnI
variable {w w' : World} {base n c : Nat} {A : Option Addr} {l : List Nat}
theorem none_ (w : World) (base : Nat) : OwnI w base none 0 0 [] := World.ownsRow_nil w base 3 1
theorem length (h : OwnI w base A n c l) : l.length = n := by have := h.1; simpa using this
theorem rowLe (h : OwnI w base A n c l) : ∀ k, (Value.slice A n c).ownBlock = some k → base ≤ k := fun k hk => (World.ownsRow.lt h k hk).1
theorem keep (h : OwnI w base A n c l) (k : Keep w w') : OwnI w' base A n c l :=
  World.ownsRow.kept h (row := none) ⟨k.os, k.tape, k.output, k.size, fun i hi _ => k.block i hi⟩ (by
    cases hb : (Value.slice A n c).ownBlock with
    | none => exact Or.inl rfl
    | some g => exact Or.inr (by simp))
theorem alloc (h : OwnI w base A n c l) (o : Obj) : OwnI (w.alloc o) base A n c l := World.ownsRow.alloc h o
theorem ints (h : OwnI w base A n c l) : IntsAt w w.heap.size A n (l.map fun x : Nat => (x : Int)) := by
  refine ⟨by rw [List.length_map]; exact h.length, fun hn => ?_⟩
  rcases h.2 with ⟨hv, h0⟩ | ⟨g, cap, cur, hv, hg, hh, _⟩
  · omega
  · injection hv with h1 _ _
    subst h1
    refine ⟨g, 0, rfl, (Array.getElem?_eq_some_iff.1 hh).1, fun i z hz => ?_⟩
    rw [List.getElem?_map] at hz
    cases hx : l[i]? with
    | none => rw [hx] at hz; cases hz
    | some x =>
      rw [hx] at hz
      have hz : (x : Int) = z := by simpa using hz
      subst hz
      have hil : i < l.length := by
        rcases Nat.lt_or_ge i l.length with h1 | h1
        · exact h1
        · rw [List.getElem?_eq_none h1] at hx; cases hx
      have := World.ownsRow.cellAt h i (by have := h.length; omega)
      rw [Nat.zero_add, this, List.getElem?_map, hx]; rfl
end OwnI
section
variable {P : Program}
end
/-- A map of places: those of E hold one. -/
def Ends (w : World) (B n : Nat) (E : Int → Prop) : Prop := ∃ D : DataW Unit, w.ownsMap Tryz.prog 3 (plainElem Tryz.prog 3) B n D ∧ IsMap D ∧ ∀ z, E z → D.atKey (.int .i64 z) (.lit (.int .i64 0)) = .lit (.int .i64 1)
theorem Ends.made (w : World) : Ends (w.alloc (.map #[] 0)) w.heap.size 0 (fun _ => False) := ⟨_, World.ownsMap_made _ _ _ _, isMap_empty, fun z h => h.elim⟩
theorem Ends.kept {w w' : World} {B n : Nat} {E : Int → Prop} (h : Ends w B n E) (k : Keep w w') : Ends w' B n E := by
  obtain ⟨D, h1, h2, h3⟩ := h
  exact ⟨D, h1.kept (row := none) ⟨k.os, k.tape, k.output, k.size, fun i hi _ => k.block i hi⟩ (by simp), h2, h3⟩
end Go.Proofs.YtgelalbmhllccaaGreat
/- The landed source: how it lies, and its functions that only read. -/
namespace Go.Proofs.YtgelalbmhllccaaGreat
open Go.RowKit
set_option linter.unusedVariables false
set_option linter.unusedSimpArgs false
theorem OwnI.turned {F : Nat → Prop} {w w' : World} {base n c : Nat} {A : Option Addr} {l : List Nat} (h : OwnI w base A n c l) (k : Turned F w w') (hn : ∀ b, (Value.slice A n c).ownBlock = some b → ¬ F b) : OwnI w' base A n c l := k.owns h hn
theorem OwnI.lower {w : World} {base base' n c : Nat} {A : Option Addr} {l : List Nat} (h : OwnI w base A n c l) (hb : base' ≤ base) : OwnI w base' A n c l := by
  refine ⟨h.1, ?_⟩
  rcases h.2 with h1 | ⟨g, cap, cur, hv, hg, r⟩
  · exact Or.inl h1
  · exact Or.inr ⟨g, cap, cur, hv, by omega, r⟩
theorem OwnI.blt {w : World} {base n c : Nat} {A : Option Addr} {l : List Nat} (h : OwnI w base A n c l) : ∀ k, (Value.slice A n c).ownBlock = some k → base ≤ k ∧ k < w.heap.size := fun k hk => World.ownsRow.lt h k hk
theorem Own.blt {w : World} {base n c : Nat} {e : TypeId} {A : Option Addr} {xs : List Nat} (h : Own w base e A n c xs) : ∀ k, (Value.slice A n c).ownBlock = some k → base ≤ k ∧ k < w.heap.size := fun k hk => h.1.lt k hk
/-- Where the cells of a source stand: g, s, stream, cuts, ends, closed. -/
structure SrcA (w : World) (F : Nat → Prop) (b g s : Nat) (A1 : Option Addr) (n1 c1 : Nat) (A2 : Option Addr) (n2 c2 : Nat) (A3 : Option Addr) (n3 c3 : Nat) (xs cs : List Nat) (M : List (List Nat)) (cl : Bool) : Prop where
  block : w.heap[b]? = some (.cells #[.int .i64 (g : Int), .int .i64 (s : Int), .slice A1 n1 c1, .slice A2 n2 c2, .slice A3 n3 c3, .bool cl] 128 (0, 0))
  s1 : Own w 0 5 A1 n1 c1 xs
  s2 : OwnI w 0 A2 n2 c2 cs
  s3 : OwnI w 0 A3 n3 c3 (endsN M)
  f0 : F b
  f1 : ∀ k, (Value.slice A1 n1 c1).ownBlock = some k → F k ∧ k ≠ b
  f2 : ∀ k, (Value.slice A2 n2 c2).ownBlock = some k → F k ∧ k ≠ b
  f3 : ∀ k, (Value.slice A3 n3 c3).ownBlock = some k → F k ∧ k ≠ b
  f12 : ∀ k, (Value.slice A1 n1 c1).ownBlock = some k → (Value.slice A2 n2 c2).ownBlock ≠ some k
  f13 : ∀ k, (Value.slice A1 n1 c1).ownBlock = some k → (Value.slice A3 n3 c3).ownBlock ≠ some k
  f23 : ∀ k, (Value.slice A2 n2 c2).ownBlock = some k → (Value.slice A3 n3 c3).ownBlock ≠ some k
  lt : ∀ k, F k → k < w.heap.size
/-- What g and s may be, with the product. -/
structure SizeS (g s P : Nat) : Prop where
  s0 : 1 ≤ s
  s1 : s ≤ 65535
  g0 : 1 ≤ g
  g1 : g ≤ 255
  eq : g * s = P
  lo : 5 ≤ P
  hi : P ≤ 16711425
  may : MayG (g : Int) (s : Int)
  int : (g : Int) * (s : Int) = (P : Int)
theorem MayG.size {g s : Int} (h : MayG g s) : ∃ G S P : Nat, g = G ∧ s = S ∧ SizeS G S P := by
  have hm := h
  obtain ⟨G, S, P, rfl, rfl, a1, a2, a3, a4, a5, a6, a7, a8⟩ := h.nat
  exact ⟨G, S, P, rfl, rfl, ⟨a3, a4, a1, a2, a5, a6, a7, hm, a8⟩⟩
section
variable {w w' : World} {F G : Nat → Prop} {b g s : Nat} {A1 : Option Addr} {n1 c1 : Nat} {A2 : Option Addr} {n2 c2 : Nat} {A3 : Option Addr} {n3 c3 : Nat} {xs cs : List Nat} {M : List (List Nat)} {cl : Bool}
namespace SrcA
theorem turned (h : SrcA w F b g s A1 n1 c1 A2 n2 c2 A3 n3 c3 xs cs M cl) (k : Turned G w w') (hd : ∀ i, F i → ¬ G i) : SrcA w' F b g s A1 n1 c1 A2 n2 c2 A3 n3 c3 xs cs M cl :=
  ⟨(k.block b (h.lt b h.f0) (hd b h.f0)).trans h.block, h.s1.turned k fun i hi => hd i (h.f1 i hi).1, h.s2.turned k fun i hi => hd i (h.f2 i hi).1, h.s3.turned k fun i hi => hd i (h.f3 i hi).1, h.f0, h.f1, h.f2, h.f3, h.f12, h.f13, h.f23, fun i hi => Nat.lt_of_lt_of_le (h.lt i hi) k.size⟩
theorem keep (h : SrcA w F b g s A1 n1 c1 A2 n2 c2 A3 n3 c3 xs cs M cl) (k : Keep w w') : SrcA w' F b g s A1 n1 c1 A2 n2 c2 A3 n3 c3 xs cs M cl := h.turned (Turned.of_keep (F := fun _ => False) k) fun _ _ e => e
theorem x0 (h : SrcA w F b g s A1 n1 c1 A2 n2 c2 A3 n3 c3 xs cs M cl) : w.cell? ⟨b, 0, none⟩ = some (.int .i64 (g : Int)) := by simp [World.cell?, h.block]
theorem x1 (h : SrcA w F b g s A1 n1 c1 A2 n2 c2 A3 n3 c3 xs cs M cl) : w.cell? ⟨b, 1, none⟩ = some (.int .i64 (s : Int)) := by simp [World.cell?, h.block]
theorem x2 (h : SrcA w F b g s A1 n1 c1 A2 n2 c2 A3 n3 c3 xs cs M cl) : w.cell? ⟨b, 2, none⟩ = some (.slice A1 n1 c1) := by simp [World.cell?, h.block]
theorem x3 (h : SrcA w F b g s A1 n1 c1 A2 n2 c2 A3 n3 c3 xs cs M cl) : w.cell? ⟨b, 3, none⟩ = some (.slice A2 n2 c2) := by simp [World.cell?, h.block]
theorem x4 (h : SrcA w F b g s A1 n1 c1 A2 n2 c2 A3 n3 c3 xs cs M cl) : w.cell? ⟨b, 4, none⟩ = some (.slice A3 n3 c3) := by simp [World.cell?, h.block]
theorem x5 (h : SrcA w F b g s A1 n1 c1 A2 n2 c2 A3 n3 c3 xs cs M cl) : w.cell? ⟨b, 5, none⟩ = some (.bool cl) := by simp [World.cell?, h.block]
theorem free (h : SrcA w F b g s A1 n1 c1 A2 n2 c2 A3 n3 c3 xs cs M cl) (i : Nat) : w.frozen? ⟨b, i, none⟩ = false := by simp [World.frozen?, h.block]
theorem n1eq (h : SrcA w F b g s A1 n1 c1 A2 n2 c2 A3 n3 c3 xs cs M cl) : xs.length = n1 := h.s1.length
theorem n3eq (h : SrcA w F b g s A1 n1 c1 A2 n2 c2 A3 n3 c3 xs cs M cl) : M.length = n3 := by rw [← endsN_len, h.s3.length]
end SrcA
set_option maxRecDepth 100000 in
theorem start_any (h : SrcA w F b g s A1 n1 c1 A2 n2 c2 A3 n3 c3 xs cs M cl) (i t : Nat) (hi : i ≤ M.length) (hm : M.length ≤ 1000000) (ht : startN M i = t) :
    Calls Tryz.prog 102 #[.pointer (some ⟨b, 0, none⟩), .int .i64 (i : Int)] w fun e w' => e = .returned (.int .i64 (t : Int)) ∧ w = w' := by
  have c4 := h.x4
  by_cases h0 : i = 0
  · subst h0
    obtain rfl : 0 = t := by rw [← ht, startN_zero]
    clear h ht c4
    go_enter Tryz.func102, Tryz.ntmps102
    go_wp2_with fail
    go_ret
    exact ⟨rfl, rfl⟩
  · obtain ⟨j, rfl⟩ : ∃ j, i = j + 1 := ⟨i - 1, by omega⟩
    have e1 := h.n3eq
    have hg : (endsN M)[j]? = some t := by rw [endsN_get (by omega), ht]
    obtain ⟨bb, off, rfl, _, hc⟩ := h.s3.ints.2 (by omega)
    have hc := hc j (t : Int) (by rw [List.getElem?_map, hg]; rfl)
    have d1 : decide (((j : Nat) : Int) + 1 = 0) = false := decide_eq_false (by omega)
    have d2 : (((j : Nat) : Int) + 1 == 0) = false := beq_eq_false_iff_ne.2 (by omega)
    have d3 : (((j + 1 : Nat) : Int)) = (j : Int) + 1 := by omega
    have d4 : ((j : Int) + 1 - 1) = (j : Int) := by omega
    have d5 : (0 : Int) ≤ (j : Int) := by omega
    have d6 : (j : Int) < (n3 : Int) := by omega
    have d7 : ¬ ((j : Int) + 1 = 0) := by omega
    have d8 : j ≤ 1000000 := by omega
    rw [d3]
    clear h ht hg e1 hi h0 d3
    go_enter Tryz.func102, Tryz.ntmps102
    go_wp2_with fail
    go_ret
    exact ⟨rfl, rfl⟩
set_option maxRecDepth 100000 in
theorem room_any (h : SrcA w F b g s A1 n1 c1 A2 n2 c2 A3 n3 c3 xs cs M cl) {P : Nat} (hz : SizeS g s P) :
    Calls Tryz.prog 59 #[.pointer (some ⟨b, 0, none⟩)] w fun e w' => e = .returned (.int .i64 ((P - 4 : Nat) : Int)) ∧ ∃ m, w' = w.drewN m := by
  have y0 := h.x0
  have y1 := h.x1
  have hr : ∀ w, Calls Tryz.prog 31 #[.int .i64 (g : Int), .int .i64 (s : Int)] w fun e w' => e = .returned (.tuple #[.int .i64 ((P - 4 : Nat) : Int), .int .i64 0]) ∧ w = w' := fun w => by
    have := proom_any (g : Int) (s : Int) w
    rw [roomV, roomE, if_pos hz.may, if_pos hz.may, hz.int] at this
    rwa [show ((P : Int) - 4) = ((P - 4 : Nat) : Int) by have := hz.lo; omega] at this
  generalize P - 4 = R at *
  have HR := Lib.hid hr
  clear h hr hz
  go_enter Tryz.func59, Tryz.ntmps59
  go_wp2_with fail
  go_quiet ((go_at_call 31; exact quiet_of_eq (HR.out _)))
  go_wp2_with fail
  go_ret
  exact ⟨rfl, _, rfl⟩
set_option maxRecDepth 100000 in
theorem open_any (h : SrcA w F b g s A1 n1 c1 A2 n2 c2 A3 n3 c3 xs cs M cl) (f o : Nat) (hf : M.flatten.length = f) (ho : xs.length = f + o) (hm : M.length ≤ 1000000) (hx : xs.length ≤ 1000000) :
    Calls Tryz.prog 60 #[.pointer (some ⟨b, 0, none⟩)] w fun e w' => e = .returned (.int .i64 (o : Int)) ∧ ∃ m, w' = w.drewN m := by
  have y2 := h.x2
  have y4 := h.x4
  have e1 := h.n1eq
  have e3 := h.n3eq
  have hs : ∀ w', Keep w w' → Calls Tryz.prog 102 #[.pointer (some ⟨b, 0, none⟩), .int .i64 (n3 : Int)] w' fun e w'' => e = .returned (.int .i64 (f : Int)) ∧ w' = w'' := fun w' k => by
    have := start_any (h.keep k) M.length f (Nat.le_refl _) hm (by rw [startN_all, hf])
    rwa [e3] at this
  have HS := Lib.hid hs
  have d1 : (n1 : Int) - (f : Int) = (o : Int) := by omega
  have d2 : IntKind.i64.wrap (o : Int) = (o : Int) := IntWalk.i64_in _ (by omega)
  clear h hs hf ho e1 e3 hm hx
  go_enter Tryz.func60, Tryz.ntmps60
  go_wp2_with fail
  go_quiet ((go_at_call 102; exact quiet_of_eq (HS.out _ ((Keep.refl _).drewN _))))
  go_wp2_with fail
  go_ret
  exact ⟨rfl, _, rfl⟩
set_option maxRecDepth 100000 in
theorem pieces_any (h : SrcA w F b g s A1 n1 c1 A2 n2 c2 A3 n3 c3 xs cs M cl) {P : Nat} (hz : SizeS g s P) (n k : Nat) (hn : n ≤ 140737488351232) (hk : (n + (P - 4) - 1) / (P - 4) = k) :
    Calls Tryz.prog 101 #[.pointer (some ⟨b, 0, none⟩), .int .i64 (n : Int)] w fun e w' => e = .returned (.int .i64 (k : Int)) ∧ ∃ m, w' = w.drewN m := by
  have r1 : ∀ w', Keep w w' → Calls Tryz.prog 59 #[.pointer (some ⟨b, 0, none⟩)] w' fun e w'' => e = .returned (.int .i64 ((P - 4 : Nat) : Int)) ∧ ∃ m, w'' = w'.drewN m := fun w' k => room_any (h.keep k) hz
  have b1 := hz.lo
  have b2 := hz.hi
  obtain ⟨R, hR⟩ : ∃ R, P - 4 = R := ⟨_, rfl⟩
  rw [hR] at r1 hk
  have q1 : IntKind.i64.wrap ((n : Int) + (R : Int)) = ((n : Int) + (R : Int)) := IntWalk.i64_in _ (by omega)
  have q2 : IntKind.i64.wrap ((n : Int) + (R : Int) - 1) = ((n : Int) + (R : Int) - 1) := IntWalk.i64_in _ (by omega)
  have q3 : ((n : Int) + (R : Int) - 1).tdiv (R : Int) = (k : Int) := by
    rw [Int.tdiv_eq_ediv_of_nonneg (by omega), show ((n : Int) + (R : Int) - 1) = ((n + R - 1 : Nat) : Int) by omega, ← hk]; rfl
  have hkl : k ≤ 140737488351232 + 16711425 := by
    rw [← hk]; exact Nat.le_trans (Nat.div_le_self _ _) (by omega)
  have q4 : IntKind.i64.wrap (k : Int) = (k : Int) := IntWalk.i64_in _ (by omega)
  have q5 : ¬ (R : Int) = 0 := by omega
  have q6 : ((R : Int) == 0) = false := beq_eq_false_iff_ne.2 q5
  have R1 := Lib.hid r1
  clear h r1 hz b1 b2 hR hk hkl hn
  go_enter Tryz.func101, Tryz.ntmps101
  go_wp2_with fail
  refine (R1.out _ (Keep.refl _)).mono ?_
  rintro e w1 ⟨rfl, m1, rfl⟩
  go_wp2_with fail
  refine (R1.out _ ((Keep.refl _).drewN _)).mono ?_
  rintro e w2 ⟨rfl, m2, rfl⟩
  go_wp2_with fail
  go_ret
  exact ⟨rfl, m1 + m2, by simp [World.drewN_drewN]⟩
set_option maxRecDepth 100000 in
theorem gens_any (h : SrcA w F b g s A1 n1 c1 A2 n2 c2 A3 n3 c3 xs cs M cl) (hm : M.length ≤ 1000000) :
    Calls Tryz.prog 27 #[.pointer (some ⟨b, 0, none⟩)] w fun e w' => e = .returned (.int .u64 (M.length : Int)) ∧ w = w' := by
  have y4 := h.x4
  have e3 := h.n3eq
  rw [e3]
  have q : IntKind.u64.wrap (n3 : Int) = (n3 : Int) := IntWalk.u64_in _ (by omega)
  clear h e3
  go_enter Tryz.func27, Tryz.ntmps27
  go_wp2_with fail
  go_ret
  exact ⟨rfl, rfl⟩
end
end Go.Proofs.YtgelalbmhllccaaGreat
/- The landed source: what a call may tell is asked by closures. -/
namespace Go.Proofs.YtgelalbmhllccaaGreat
open Go.RowKit
set_option linter.unusedVariables false
set_option linter.unusedSimpArgs false
set_option maxRecDepth 100000 in
/-- first, of any functions: as long as they tell OK. -/
theorem first_gen (R : Nat → World → Prop) (Q : Int → World → Prop) (bk n c : Nat) (w : World) (hn : n ≤ 100) (h0 : R 0 w)
    (hstep : ∀ k wr, k < n → R k wr → ∃ f cap, wr.cell? ⟨bk, k, none⟩ = some (.func (.func f) #[] cap) ∧ (∀ args w, (callFunc f args).run Tryz.prog w = .ok (.enter f args) w) ∧ Calls Tryz.prog f cap wr fun e w' => ∃ r, e = .returned (.int .i64 r) ∧ (r = 0 → R (k + 1) w') ∧ (r ≠ 0 → Q r w'))
    (hend : ∀ wr, R n wr → Q 0 wr) :
    Calls Tryz.prog 55 #[.slice (some ⟨bk, 0, none⟩) n c] w fun e w' => ∃ r, e = .returned (.int .i64 r) ∧ Q r w' := by
  go_enter Tryz.func55, Tryz.ntmps55
  go_wp2_with fail
  go_loopw [8] (fun i wr => ∃ k : Nat, k ≤ n ∧ i = .int .i64 k ∧ R k wr) (fun i _ => n - (intOf i).toNat)
  case atStart => exact ⟨0, by omega, rfl, h0⟩
  case round =>
    obtain ⟨k, hk, rfl, hr⟩ := hrel
    by_cases hlt : k < n
    · obtain ⟨f, cap, hc, eg, hs⟩ := hstep k wr hlt hr
      have hc' : wr.cell? ⟨bk, 0 + k, none⟩ = some (.func (.func f) #[] cap) := by rw [Nat.zero_add]; exact hc
      have HS := Lib.hid hs
      have HE := Lib.hid hend
      clear hs hstep h0 hend
      go_wp2_with fail
      refine HS.out.mono ?_
      rintro e w2 ⟨r, rfl, hr2, hr3⟩
      have H2 := Lib.hid hr2
      have H3 := Lib.hid hr3
      clear hr2 hr3
      by_cases hz : r = 0
      · subst hz
        go_wp2_with fail
        go_round
        case rel => exact ⟨k + 1, by omega, by go_num, H2.out (by first | trivial | rfl)⟩
        case measure => simp [intOf]; omega
      · go_wp2_with fail
        go_ret
        exact ⟨_, rfl, H3.out hz⟩
    · obtain rfl : k = n := by omega
      have HE := Lib.hid hend
      clear hstep h0 hend
      go_wp2_with fail
      go_ret
      exact ⟨_, rfl, HE.out _ hr⟩
/-- Something that a call may tell: r, as long as p. -/
def AskV (w : World) (v : Value) (p : Prop) (r : Int) : Prop :=
  ∃ b1 b2 : Nat, v = .func (.func 135) #[] #[.pointer (some ⟨b1, 0, none⟩), .pointer (some ⟨b2, 0, none⟩)] ∧
    (p → ∀ w', Keep w w' → Calls Tryz.prog 135 #[.pointer (some ⟨b1, 0, none⟩), .pointer (some ⟨b2, 0, none⟩)] w' fun e w'' => e = .returned (.int .i64 r) ∧ ∃ m, w'' = w'.drewN m)
theorem AskV.keep {w w' : World} {v : Value} {p : Prop} {r : Int} (h : AskV w v p r) (k : Keep w w') : AskV w' v p r := by
  obtain ⟨b1, b2, e, hp⟩ := h
  exact ⟨b1, b2, e, fun x w2 k2 => hp x w2 (k.trans k2)⟩
theorem AskV.weak {w : World} {v : Value} {p q : Prop} {r : Int} (h : AskV w v p r) (k : q → p) : AskV w v q r := by
  obtain ⟨b1, b2, e, hp⟩ := h
  exact ⟨b1, b2, e, fun x => hp (k x)⟩
theorem tells_any (b1 b2 f : Nat) (cap : Array Value) (er : Int) (b : Bool) (w : World) (h1 : Held w b1 (.func (.func f) #[] cap) 26) (h2 : Held w b2 (.int .i64 er) 28)
    (eg : ∀ args w, (callFunc f args).run Tryz.prog w = .ok (.enter f args) w) (hc : Calls Tryz.prog f cap w fun e w' => e = .returned (.bool b) ∧ ∃ m, w' = w.drewN m) :
    Calls Tryz.prog 135 #[.pointer (some ⟨b1, 0, none⟩), .pointer (some ⟨b2, 0, none⟩)] w fun e w' => e = .returned (.int .i64 (if b then er else 0)) ∧ ∃ m, w' = w.drewN m := by
  have c1 := h1.cell
  have c2 := h2.cell
  have HC := Lib.hid hc
  have c2' : ∀ m, (w.drewN m).cell? ⟨b2, 0, none⟩ = some (.int .i64 er) := fun m => by rw [World.cell?_drewN]; exact c2
  clear h1 h2 hc
  cases b with
  | true =>
    go_enter Tryz.func135, Tryz.ntmps135
    go_wp2_with fail
    refine HC.out.mono ?_
    rintro e w1 ⟨rfl, m, rfl⟩
    go_wp2_with fail
    go_ret
    exact ⟨rfl, _, rfl⟩
  | false =>
    go_enter Tryz.func135, Tryz.ntmps135
    go_wp2_with fail
    refine HC.out.mono ?_
    rintro e w1 ⟨rfl, m, rfl⟩
    go_wp2_with fail
    go_ret
    exact ⟨rfl, _, rfl⟩
/-- What telling hands back. -/
def Telling (w : World) (f : Nat) (cap : Array Value) (er : Int) (e : Ending) (w' : World) : Prop :=
  ∃ v, e = .returned v ∧ Keep w w' ∧ ∀ (p : Prop) (b : Bool), (p → ∀ w2, Keep w' w2 → Calls Tryz.prog f cap w2 fun e w3 => e = .returned (.bool b) ∧ ∃ m, w3 = w2.drewN m) → AskV w' v p (if b then er else 0)
theorem telling_any (f : Nat) (cap : Array Value) (er : Int) (w : World) (eg : ∀ args w, (callFunc f args).run Tryz.prog w = .ok (.enter f args) w) :
    Calls Tryz.prog 91 #[.int .i64 er, .func (.func f) #[] cap] w (Telling w f cap er) := by
  have hmf : ∀ (fn : Fn) (first cap : Array Value) (w : World), (Instr.makeFunc fn first cap).run Tryz.prog w = .ok (.func fn first cap) w := fun _ _ _ _ => rfl
  obtain ⟨w2, hw2⟩ : ∃ w2, (w.alloc (.cells #[.int .i64 er] 28)).alloc (.cells #[.func (.func f) #[] cap] 26) = w2 := ⟨_, rfl⟩
  have k2 : Keep w w2 := by rw [← hw2]; exact ((Keep.refl w).alloc _ _).alloc _ _
  have g1 : Held w2 w.heap.size (.int .i64 er) 28 := by
    rw [← hw2]; exact (Held.new rfl _ _).keep ((Keep.refl _).alloc _ _)
  have g2 : Held w2 (w.heap.size + 1) (.func (.func f) #[] cap) 26 := by
    rw [← hw2]; exact Held.new (by simp) _ _
  have H1 := Lib.hid g1
  have H2 := Lib.hid g2
  have HK := Lib.hid k2
  have HEG := Lib.hid eg
  clear g1 g2 k2 eg
  go_enter Tryz.func91, Tryz.ntmps91
  go_wp2_with fail
  go_ret
  exact ⟨_, rfl, HK.out, fun p b hp => ⟨_, _, rfl, fun x w' kw => tells_any _ _ f cap er b w' (H2.out.keep kw) (H1.out.keep kw) HEG.out (hp x w' kw)⟩⟩
/-- What an ask hands back. -/
def AskR (w : World) (p : Prop) (r : Int) (e : Ending) (w' : World) : Prop := ∃ v, e = .returned v ∧ Keep w w' ∧ AskV w' v p r
section
variable {w w' : World} {F G : Nat → Prop} {b g s : Nat} {A1 : Option Addr} {n1 c1 : Nat} {A2 : Option Addr} {n2 c2 : Nat} {A3 : Option Addr} {n3 c3 : Nat} {xs cs : List Nat} {M : List (List Nat)} {cl : Bool}
/-- isNone, of any pointer: what its closure tells. -/
theorem isnone_gen (A : Option Addr) (b : Bool) (r : Int) (hr : (if b then 2 else 0) = r) (w : World) (hc : ∀ g w2, Held w2 g (.pointer A) 66 → Keep w w2 → Calls Tryz.prog 98 #[.pointer (some ⟨g, 0, none⟩)] w2 fun e w3 => e = .returned (.bool b) ∧ ∃ m, w3 = w2.drewN m) :
    Calls Tryz.prog 56 #[.pointer A] w (AskR w True r) := by
  have hmf : ∀ (fn : Fn) (first cap : Array Value) (w : World), (Instr.makeFunc fn first cap).run Tryz.prog w = .ok (.func fn first cap) w := fun _ _ _ _ => rfl
  obtain ⟨w2, hw2⟩ : ∃ w2, w.alloc (.cells #[.pointer A] 66) = w2 := ⟨_, rfl⟩
  have k2 : Keep w w2 := by rw [← hw2]; exact (Keep.refl w).alloc _ _
  have g1 : Held w2 w.heap.size (.pointer A) 66 := by rw [← hw2]; exact Held.new rfl _ _
  have H1 := Lib.hid g1
  have HK := Lib.hid k2
  have HC := Lib.hid hc
  have HR := Lib.hid hr
  clear g1 k2 hc hr
  go_enter Tryz.func56, Tryz.ntmps56
  go_wp2_with fail
  refine (telling_any _ _ 2 _ (enters_at Tryz.func98 (by kernel_rfl) rfl)).mono ?_
  rintro e w3 ⟨v, rfl, k3, h3⟩
  have H3 : Hid (AskV w3 v True r) := by
    show AskV _ _ _ _
    rw [← HR.out]
    exact h3 True b fun _ w4 k4 => HC.out _ w4 ((H1.out.keep k3).keep k4) ((HK.out.trans k3).trans k4)
  have K3 : Hid (Keep w w3) := HK.out.trans k3
  clear k3 h3
  go_wp2_with fail
  go_ret
  exact ⟨v, rfl, K3.out, H3.out⟩
theorem isnone_any (h : SrcA w F b g s A1 n1 c1 A2 n2 c2 A3 n3 c3 xs cs M cl) (hg : 1 ≤ g) : Calls Tryz.prog 56 #[.pointer (some ⟨b, 0, none⟩)] w (AskR w True 0) := by
  refine isnone_gen _ false 0 rfl w fun q w2 hq k => ?_
  have c1 := hq.cell
  have y0 := (h.keep k).x0
  have d1 : decide ((g : Int) = 0) = false := decide_eq_false (by omega)
  have d2 : ((g : Int) == 0) = false := beq_eq_false_iff_ne.2 (by omega)
  have d3 : ¬ (g : Int) = 0 := by omega
  clear h hq k hg
  go_enter Tryz.func98, Tryz.ntmps98
  go_wp2_with fail
  go_ret
  exact ⟨rfl, 0, rfl⟩
end
end Go.Proofs.YtgelalbmhllccaaGreat
/- The landed source: closed, full, no such generation, what does not fit. -/
namespace Go.Proofs.YtgelalbmhllccaaGreat
open Go.RowKit
set_option linter.unusedVariables false
set_option linter.unusedSimpArgs false
theorem quiet_drewN {P : Program} {f : FuncId} {args : Array Value} {w : World} {n : Nat} {v : Value}
    (h : Calls P f args (w.drewN n) fun e w' => e = .returned v ∧ ∃ m, w' = (w.drewN n).drewN m) : Calls P f args (w.drewN n) fun e w'' => e = .returned v ∧ ∃ m, w'' = w.drewN m :=
  h.mono fun _ _ h => ⟨h.1, by obtain ⟨m, e⟩ := h.2; exact ⟨n + m, by rw [e, World.drewN_drewN]⟩⟩
set_option maxHeartbeats 1000000 in
theorem isclosed_gen (A : Option Addr) (p : Prop) (bb : Bool) (r : Int) (hr : (if bb then 27 else 0) = r) (w : World) (hc : p → ∀ (g0 : Nat) w2, Held w2 g0 (.pointer A) 66 → Keep w w2 → Calls Tryz.prog 99 #[.pointer (some ⟨g0, 0, none⟩)] w2 fun e w3 => e = .returned (.bool bb) ∧ ∃ m, w3 = w2.drewN m) :
    Calls Tryz.prog 57 #[.pointer A] w (AskR w p r) := by
  have hmf : ∀ (fn : Fn) (first cap : Array Value) (w : World), (Instr.makeFunc fn first cap).run Tryz.prog w = .ok (.func fn first cap) w := fun _ _ _ _ => rfl
  obtain ⟨w2, hw2⟩ : ∃ w2, w.alloc (.cells #[.pointer A] 66) = w2 := ⟨_, rfl⟩
  have k2 : Keep w w2 := by rw [← hw2]; exact (Keep.refl w).alloc _ _
  have q0 : Held w2 w.heap.size (.pointer A) 66 := by rw [← hw2]; exact Held.new rfl _ _
  have H0 := Lib.hid q0
  have HK := Lib.hid k2
  have HC := Lib.hid hc
  have HR := Lib.hid hr
  clear k2 hc hr q0
  go_enter Tryz.func57, Tryz.ntmps57
  go_wp2_with fail
  refine (telling_any _ _ 27 _ (enters_at Tryz.func99 (by kernel_rfl) rfl)).mono ?_
  rintro e w3 ⟨v, rfl, k3, h3⟩
  have H9 : Hid (AskV w3 v p r) := by
    show AskV _ _ _ _
    rw [← HR.out]
    exact h3 p bb fun x w4 k4 => HC.out x _ w4 ((H0.out.keep k3).keep k4) ((HK.out.trans k3).trans k4)
  have K3 : Hid (Keep w w3) := HK.out.trans k3
  clear k3 h3
  go_wp2_with fail
  go_ret
  exact ⟨v, rfl, K3.out, H9.out⟩
set_option maxHeartbeats 1000000 in
theorem hasno_gen (A : Option Addr) (gen : Nat) (p : Prop) (bb : Bool) (r : Int) (hr : (if bb then 23 else 0) = r) (w : World) (hc : p → ∀ (g0 g1 : Nat) w2, Held w2 g0 (.pointer A) 66 → Held w2 g1 (.int .u64 (gen : Int)) 22 → Keep w w2 → Calls Tryz.prog 103 #[.pointer (some ⟨g1, 0, none⟩), .pointer (some ⟨g0, 0, none⟩)] w2 fun e w3 => e = .returned (.bool bb) ∧ ∃ m, w3 = w2.drewN m) :
    Calls Tryz.prog 62 #[.pointer A, .int .u64 (gen : Int)] w (AskR w p r) := by
  have hmf : ∀ (fn : Fn) (first cap : Array Value) (w : World), (Instr.makeFunc fn first cap).run Tryz.prog w = .ok (.func fn first cap) w := fun _ _ _ _ => rfl
  obtain ⟨w2, hw2⟩ : ∃ w2, (w.alloc (.cells #[.pointer A] 66)).alloc (.cells #[.int .u64 (gen : Int)] 22) = w2 := ⟨_, rfl⟩
  have k2 : Keep w w2 := by rw [← hw2]; exact ((Keep.refl w).alloc _ _).alloc _ _
  have q0 : Held w2 w.heap.size (.pointer A) 66 := by rw [← hw2]; exact (Held.new rfl _ _).keep ((Keep.refl _).alloc _ _)
  have q1 : Held w2 (w.heap.size + 1) (.int .u64 (gen : Int)) 22 := by rw [← hw2]; exact Held.new (by simp) _ _
  have H0 := Lib.hid q0
  have H1 := Lib.hid q1
  have HK := Lib.hid k2
  have HC := Lib.hid hc
  have HR := Lib.hid hr
  clear k2 hc hr q0 q1
  go_enter Tryz.func62, Tryz.ntmps62
  go_wp2_with fail
  refine (telling_any _ _ 23 _ (enters_at Tryz.func103 (by kernel_rfl) rfl)).mono ?_
  rintro e w3 ⟨v, rfl, k3, h3⟩
  have H9 : Hid (AskV w3 v p r) := by
    show AskV _ _ _ _
    rw [← HR.out]
    exact h3 p bb fun x w4 k4 => HC.out x _ _ w4 ((H0.out.keep k3).keep k4) ((H1.out.keep k3).keep k4) ((HK.out.trans k3).trans k4)
  have K3 : Hid (Keep w w3) := HK.out.trans k3
  clear k3 h3
  go_wp2_with fail
  go_ret
  exact ⟨v, rfl, K3.out, H9.out⟩
set_option maxHeartbeats 1000000 in
theorem fitsnot_gen (A : Option Addr) (A5 : Option Addr) (n5 c5 : Nat) (p : Prop) (bb : Bool) (r : Int) (hr : (if bb then 21 else 0) = r) (w : World) (hc : p → ∀ (g0 g1 : Nat) w2, Held w2 g0 (.pointer A) 66 → Held w2 g1 (.slice A5 n5 c5) 43 → Keep w w2 → Calls Tryz.prog 104 #[.pointer (some ⟨g1, 0, none⟩), .pointer (some ⟨g0, 0, none⟩)] w2 fun e w3 => e = .returned (.bool bb) ∧ ∃ m, w3 = w2.drewN m) :
    Calls Tryz.prog 63 #[.pointer A, .slice A5 n5 c5] w (AskR w p r) := by
  have hmf : ∀ (fn : Fn) (first cap : Array Value) (w : World), (Instr.makeFunc fn first cap).run Tryz.prog w = .ok (.func fn first cap) w := fun _ _ _ _ => rfl
  obtain ⟨w2, hw2⟩ : ∃ w2, (w.alloc (.cells #[.pointer A] 66)).alloc (.cells #[.slice A5 n5 c5] 43) = w2 := ⟨_, rfl⟩
  have k2 : Keep w w2 := by rw [← hw2]; exact ((Keep.refl w).alloc _ _).alloc _ _
  have q0 : Held w2 w.heap.size (.pointer A) 66 := by rw [← hw2]; exact (Held.new rfl _ _).keep ((Keep.refl _).alloc _ _)
  have q1 : Held w2 (w.heap.size + 1) (.slice A5 n5 c5) 43 := by rw [← hw2]; exact Held.new (by simp) _ _
  have H0 := Lib.hid q0
  have H1 := Lib.hid q1
  have HK := Lib.hid k2
  have HC := Lib.hid hc
  have HR := Lib.hid hr
  clear k2 hc hr q0 q1
  go_enter Tryz.func63, Tryz.ntmps63
  go_wp2_with fail
  refine (telling_any _ _ 21 _ (enters_at Tryz.func104 (by kernel_rfl) rfl)).mono ?_
  rintro e w3 ⟨v, rfl, k3, h3⟩
  have H9 : Hid (AskV w3 v p r) := by
    show AskV _ _ _ _
    rw [← HR.out]
    exact h3 p bb fun x w4 k4 => HC.out x _ _ w4 ((H0.out.keep k3).keep k4) ((H1.out.keep k3).keep k4) ((HK.out.trans k3).trans k4)
  have K3 : Hid (Keep w w3) := HK.out.trans k3
  clear k3 h3
  go_wp2_with fail
  go_ret
  exact ⟨v, rfl, K3.out, H9.out⟩
set_option maxHeartbeats 1000000 in
theorem isfull_gen (A : Option Addr) (more : Nat) (most : Nat) (p : Prop) (bb : Bool) (r : Int) (hr : (if bb then 7 else 0) = r) (w : World) (hc : p → ∀ (g0 g1 g2 : Nat) w2, Held w2 g0 (.pointer A) 66 → Held w2 g1 (.int .i64 (more : Int)) 3 → Held w2 g2 (.int .u64 (most : Int)) 22 → Keep w w2 → Calls Tryz.prog 100 #[.pointer (some ⟨g1, 0, none⟩), .pointer (some ⟨g0, 0, none⟩), .pointer (some ⟨g2, 0, none⟩)] w2 fun e w3 => e = .returned (.bool bb) ∧ ∃ m, w3 = w2.drewN m) :
    Calls Tryz.prog 58 #[.pointer A, .int .i64 (more : Int), .int .u64 (most : Int)] w (AskR w p r) := by
  have hmf : ∀ (fn : Fn) (first cap : Array Value) (w : World), (Instr.makeFunc fn first cap).run Tryz.prog w = .ok (.func fn first cap) w := fun _ _ _ _ => rfl
  obtain ⟨w2, hw2⟩ : ∃ w2, ((w.alloc (.cells #[.pointer A] 66)).alloc (.cells #[.int .i64 (more : Int)] 3)).alloc (.cells #[.int .u64 (most : Int)] 22) = w2 := ⟨_, rfl⟩
  have k2 : Keep w w2 := by rw [← hw2]; exact (((Keep.refl w).alloc _ _).alloc _ _).alloc _ _
  have q0 : Held w2 w.heap.size (.pointer A) 66 := by rw [← hw2]; exact (Held.new rfl _ _).keep (((Keep.refl _).alloc _ _).alloc _ _)
  have q1 : Held w2 (w.heap.size + 1) (.int .i64 (more : Int)) 3 := by rw [← hw2]; exact (Held.new (by simp) _ _).keep ((Keep.refl _).alloc _ _)
  have q2 : Held w2 (w.heap.size + 2) (.int .u64 (most : Int)) 22 := by rw [← hw2]; exact Held.new (by simp) _ _
  have H0 := Lib.hid q0
  have H1 := Lib.hid q1
  have H2 := Lib.hid q2
  have HK := Lib.hid k2
  have HC := Lib.hid hc
  have HR := Lib.hid hr
  clear k2 hc hr q0 q1 q2
  go_enter Tryz.func58, Tryz.ntmps58
  go_wp2_with fail
  refine (telling_any _ _ 7 _ (enters_at Tryz.func100 (by kernel_rfl) rfl)).mono ?_
  rintro e w3 ⟨v, rfl, k3, h3⟩
  have H9 : Hid (AskV w3 v p r) := by
    show AskV _ _ _ _
    rw [← HR.out]
    exact h3 p bb fun x w4 k4 => HC.out x _ _ _ w4 ((H0.out.keep k3).keep k4) ((H1.out.keep k3).keep k4) ((H2.out.keep k3).keep k4) ((HK.out.trans k3).trans k4)
  have K3 : Hid (Keep w w3) := HK.out.trans k3
  clear k3 h3
  go_wp2_with fail
  go_ret
  exact ⟨v, rfl, K3.out, H9.out⟩
section
variable {w w' : World} {F G : Nat → Prop} {b g s : Nat} {A1 : Option Addr} {n1 c1 : Nat} {A2 : Option Addr} {n2 c2 : Nat} {A3 : Option Addr} {n3 c3 : Nat} {xs cs : List Nat} {M : List (List Nat)} {cl : Bool}
theorem isclosed_any (h : SrcA w F b g s A1 n1 c1 A2 n2 c2 A3 n3 c3 xs cs M cl) (r : Int) (hr : (if cl then 27 else 0) = r) : Calls Tryz.prog 57 #[.pointer (some ⟨b, 0, none⟩)] w (AskR w True r) := by
  refine isclosed_gen _ True cl r hr w fun _ q w2 hq k => ?_
  have z1 := hq.cell
  have y5 := (h.keep k).x5
  clear h hq k hr
  go_enter Tryz.func99, Tryz.ntmps99
  go_wp2_with fail
  go_ret
  exact ⟨rfl, 0, rfl⟩
set_option maxRecDepth 100000 in
theorem hasno_any (h : SrcA w F b g s A1 n1 c1 A2 n2 c2 A3 n3 c3 xs cs M cl) (hm : M.length ≤ 1000000) (gen : Nat) (r : Int) (hr : (if M.length ≤ gen then 23 else 0) = r) : Calls Tryz.prog 62 #[.pointer (some ⟨b, 0, none⟩), .int .u64 (gen : Int)] w (AskR w True r) := by
  obtain ⟨bb, hb⟩ : ∃ bb, decide (M.length ≤ gen) = bb := ⟨_, rfl⟩
  refine hasno_gen _ gen True bb r (by rw [← hr, ← hb]; simp) w fun _ q0 q1 w2 hq0 hq1 k => ?_
  have z0 := hq0.cell
  have z1 := hq1.cell
  have y4 := (h.keep k).x4
  have e3 := h.n3eq
  rw [e3] at hb
  have q2 : IntKind.u64.wrap (n3 : Int) = (n3 : Int) := IntWalk.u64_in _ (by omega)
  have hn : n3 ≤ 1000000 := by omega
  clear h hq0 hq1 k hr hm e3
  by_cases hl : n3 ≤ gen
  · obtain rfl : true = bb := by rw [← hb]; exact (decide_eq_true hl).symm
    clear hb
    go_enter Tryz.func103, Tryz.ntmps103
    go_wp2_with fail
    go_quiet (fail)
    go_wp2_with fail
    go_ret
    exact ⟨rfl, _, rfl⟩
  · obtain rfl : false = bb := by rw [← hb]; exact (decide_eq_false hl).symm
    clear hb
    go_enter Tryz.func103, Tryz.ntmps103
    go_wp2_with fail
    go_quiet (fail)
    go_wp2_with fail
    go_ret
    exact ⟨rfl, _, rfl⟩
set_option maxRecDepth 100000 in
theorem fitsnot_any (h : SrcA w F b g s A1 n1 c1 A2 n2 c2 A3 n3 c3 xs cs M cl) (A5 : Option Addr) (n5 c5 : Nat) (r : Int) (hr : (if n5 = g then 0 else 21) = r) : Calls Tryz.prog 63 #[.pointer (some ⟨b, 0, none⟩), .slice A5 n5 c5] w (AskR w True r) := by
  by_cases hl : n5 = g
  · refine fitsnot_gen _ A5 n5 c5 True false r (by rw [← hr, if_pos hl]; rfl) w fun _ q0 q1 w2 hq0 hq1 k => ?_
    have z0 := hq0.cell
    have z1 := hq1.cell
    have y0 := (h.keep k).x0
    subst hl
    clear h hq0 hq1 k hr
    go_enter Tryz.func104, Tryz.ntmps104
    go_wp2_with fail
    go_quiet (fail)
    go_wp2_with fail
    go_ret
    exact ⟨by simp, _, rfl⟩
  · refine fitsnot_gen _ A5 n5 c5 True true r (by rw [← hr, if_neg hl]; rfl) w fun _ q0 q1 w2 hq0 hq1 k => ?_
    have z0 := hq0.cell
    have z1 := hq1.cell
    have y0 := (h.keep k).x0
    have d1 : ((n5 : Int) != (g : Int)) = true := bne_iff_ne.2 (by omega)
    have d2 : ¬ (n5 : Int) = (g : Int) := by omega
    clear h hq0 hq1 k hr
    go_enter Tryz.func104, Tryz.ntmps104
    go_wp2_with fail
    go_quiet (fail)
    go_wp2_with fail
    go_ret
    exact ⟨by simp [*], _, rfl⟩
end
end Go.Proofs.YtgelalbmhllccaaGreat
/- The landed source: what is told first; ends, cuts and bytes are laid behind. -/
namespace Go.Proofs.YtgelalbmhllccaaGreat
open Go.RowKit
set_option linter.unusedVariables false
set_option linter.unusedSimpArgs false
def or2 (a b : Int) : Int := if a = 0 then b else a
def or3 (a b c : Int) : Int := if a = 0 then (if b = 0 then c else b) else a
theorem ask_step {W wr : World} {v : Value} {p : Prop} {r : Int} {bk k : Nat} {m : Nat} (hw : wr = W.drewN m) (hc : W.cell? ⟨bk, k, none⟩ = some v) (h : AskV W v p r) (hp : p) {R1 R2 : Int → World → Prop} (h1 : r = 0 → ∀ m, R1 r (W.drewN m)) (h2 : r ≠ 0 → ∀ m, R2 r (W.drewN m)) :
    ∃ f cap, wr.cell? ⟨bk, k, none⟩ = some (.func (.func f) #[] cap) ∧ (∀ args w, (callFunc f args).run Tryz.prog w = .ok (.enter f args) w) ∧ Calls Tryz.prog f cap wr fun e w' => ∃ r, e = .returned (.int .i64 r) ∧ (r = 0 → R1 r w') ∧ (r ≠ 0 → R2 r w') := by
  obtain ⟨b1, b2, rfl, hq⟩ := h
  refine ⟨_, _, by rw [hw, World.cell?_drewN]; exact hc, enters_at Tryz.func135 (by kernel_rfl) rfl, (hq hp wr (by rw [hw]; exact (Keep.refl _).drewN m)).mono fun e w' he => ?_⟩
  obtain ⟨rfl, m', rfl⟩ := he
  refine ⟨r, rfl, fun e => ?_, fun e => ?_⟩
  · have := h1 e (m + m'); rwa [← World.drewN_drewN, ← hw] at this
  · have := h2 e (m + m'); rwa [← World.drewN_drewN, ← hw] at this
theorem alloc_cells {w : World} {cs : Array Value} {t : TypeId} {i : Nat} {v : Value} (h : cs[i]? = some v) : (w.alloc (.cells cs t)).cell? ⟨w.heap.size, i, none⟩ = some v := by
  unfold World.cell?
  rw [show (w.alloc (.cells cs t)).heap[w.heap.size]? = _ from heap_alloc_new w _]
  exact h
theorem first2 (v1 v2 : Value) (r1 r2 : Int) (w : World) (h1 : AskV w v1 True r1) (h2 : AskV w v2 (r1 = 0) r2) (c : Nat) (t : TypeId) :
    Calls Tryz.prog 55 #[.slice (some ⟨w.heap.size, 0, none⟩) 2 c] (w.alloc (.cells #[v1, v2] t)) fun e w' => e = .returned (.int .i64 (or2 r1 r2)) ∧ ∃ m, w' = (w.alloc (.cells #[v1, v2] t)).drewN m := by
  obtain ⟨W, hW⟩ : ∃ W, w.alloc (.cells #[v1, v2] t) = W := ⟨_, rfl⟩
  have kw : Keep w W := by rw [← hW]; exact (Keep.refl w).alloc _ _
  have d1 : W.cell? ⟨w.heap.size, 0, none⟩ = some v1 := by rw [← hW]; exact alloc_cells rfl
  have d2 : W.cell? ⟨w.heap.size, 1, none⟩ = some v2 := by rw [← hW]; exact alloc_cells rfl
  rw [hW]
  refine (first_gen (fun k wr => (∃ m, wr = W.drewN m) ∧ (1 ≤ k → r1 = 0) ∧ (2 ≤ k → r2 = 0)) (fun r wr => (∃ m, wr = W.drewN m) ∧ r = or2 r1 r2) w.heap.size 2 c W (by omega) ⟨⟨0, rfl⟩, by omega, by omega⟩ (fun k wr hk hr => ?_) (fun wr hr => ?_)).mono fun e w' he => ?_
  · obtain ⟨⟨m, hm⟩, q1, q2⟩ := hr
    match k, hk with
    | 0, _ => exact ask_step (R1 := fun r wr => (∃ m, wr = W.drewN m) ∧ (1 ≤ 0 + 1 → r1 = 0) ∧ (2 ≤ 0 + 1 → r2 = 0)) (R2 := fun r wr => (∃ m, wr = W.drewN m) ∧ r = or2 r1 r2) hm d1 (h1.keep kw) trivial (fun e m => ⟨⟨m, rfl⟩, fun _ => e, by omega⟩) (fun e m => ⟨⟨m, rfl⟩, by rw [or2, if_neg e]⟩)
    | 1, _ => exact ask_step (R1 := fun r wr => (∃ m, wr = W.drewN m) ∧ (1 ≤ 1 + 1 → r1 = 0) ∧ (2 ≤ 1 + 1 → r2 = 0)) (R2 := fun r wr => (∃ m, wr = W.drewN m) ∧ r = or2 r1 r2) hm d2 (h2.keep kw) (q1 (by omega)) (fun e m => ⟨⟨m, rfl⟩, fun _ => q1 (by omega), fun _ => e⟩) (fun e m => ⟨⟨m, rfl⟩, by rw [or2, if_pos (q1 (by omega))]⟩)
    | k + 2, hk => omega
  · obtain ⟨hm, q1, q2⟩ := hr
    exact ⟨hm, by rw [or2, if_pos (q1 (by omega)), q2 (by omega)]⟩
  · obtain ⟨r, rfl, hm, rfl⟩ := he
    exact ⟨rfl, hm⟩
theorem first3 (v1 v2 v3 : Value) (r1 r2 r3 : Int) (w : World) (h1 : AskV w v1 True r1) (h2 : AskV w v2 (r1 = 0) r2) (h3 : AskV w v3 (r1 = 0 ∧ r2 = 0) r3) (c : Nat) (t : TypeId) :
    Calls Tryz.prog 55 #[.slice (some ⟨w.heap.size, 0, none⟩) 3 c] (w.alloc (.cells #[v1, v2, v3] t)) fun e w' => e = .returned (.int .i64 (or3 r1 r2 r3)) ∧ ∃ m, w' = (w.alloc (.cells #[v1, v2, v3] t)).drewN m := by
  obtain ⟨W, hW⟩ : ∃ W, w.alloc (.cells #[v1, v2, v3] t) = W := ⟨_, rfl⟩
  have kw : Keep w W := by rw [← hW]; exact (Keep.refl w).alloc _ _
  have d1 : W.cell? ⟨w.heap.size, 0, none⟩ = some v1 := by rw [← hW]; exact alloc_cells rfl
  have d2 : W.cell? ⟨w.heap.size, 1, none⟩ = some v2 := by rw [← hW]; exact alloc_cells rfl
  have d3 : W.cell? ⟨w.heap.size, 2, none⟩ = some v3 := by rw [← hW]; exact alloc_cells rfl
  rw [hW]
  refine (first_gen (fun k wr => (∃ m, wr = W.drewN m) ∧ (1 ≤ k → r1 = 0) ∧ (2 ≤ k → r2 = 0) ∧ (3 ≤ k → r3 = 0)) (fun r wr => (∃ m, wr = W.drewN m) ∧ r = or3 r1 r2 r3) w.heap.size 3 c W (by omega) ⟨⟨0, rfl⟩, by omega, by omega, by omega⟩ (fun k wr hk hr => ?_) (fun wr hr => ?_)).mono fun e w' he => ?_
  · obtain ⟨⟨m, hm⟩, q1, q2, q3⟩ := hr
    match k, hk with
    | 0, _ => exact ask_step (R1 := fun r wr => (∃ m, wr = W.drewN m) ∧ (1 ≤ 0 + 1 → r1 = 0) ∧ (2 ≤ 0 + 1 → r2 = 0) ∧ (3 ≤ 0 + 1 → r3 = 0)) (R2 := fun r wr => (∃ m, wr = W.drewN m) ∧ r = or3 r1 r2 r3) hm d1 (h1.keep kw) trivial (fun e m => ⟨⟨m, rfl⟩, fun _ => e, by omega, by omega⟩) (fun e m => ⟨⟨m, rfl⟩, by rw [or3, if_neg e]⟩)
    | 1, _ => exact ask_step (R1 := fun r wr => (∃ m, wr = W.drewN m) ∧ (1 ≤ 1 + 1 → r1 = 0) ∧ (2 ≤ 1 + 1 → r2 = 0) ∧ (3 ≤ 1 + 1 → r3 = 0)) (R2 := fun r wr => (∃ m, wr = W.drewN m) ∧ r = or3 r1 r2 r3) hm d2 (h2.keep kw) (q1 (by omega)) (fun e m => ⟨⟨m, rfl⟩, fun _ => q1 (by omega), fun _ => e, by omega⟩) (fun e m => ⟨⟨m, rfl⟩, by rw [or3, if_pos (q1 (by omega)), if_neg e]⟩)
    | 2, _ => exact ask_step (R1 := fun r wr => (∃ m, wr = W.drewN m) ∧ (1 ≤ 2 + 1 → r1 = 0) ∧ (2 ≤ 2 + 1 → r2 = 0) ∧ (3 ≤ 2 + 1 → r3 = 0)) (R2 := fun r wr => (∃ m, wr = W.drewN m) ∧ r = or3 r1 r2 r3) hm d3 (h3.keep kw) ⟨q1 (by omega), q2 (by omega)⟩ (fun e m => ⟨⟨m, rfl⟩, fun _ => q1 (by omega), fun _ => q2 (by omega), fun _ => e⟩) (fun e m => ⟨⟨m, rfl⟩, by rw [or3, if_pos (q1 (by omega)), if_pos (q2 (by omega))]⟩)
    | k + 3, hk => omega
  · obtain ⟨hm, q1, q2, q3⟩ := hr
    exact ⟨hm, by rw [or3, if_pos (q1 (by omega)), if_pos (q2 (by omega)), q3 (by omega)]⟩
  · obtain ⟨r, rfl, hm, rfl⟩ := he
    exact ⟨rfl, hm⟩
section
variable {P : Program}
/-- append(ints, one): where it lies then. -/
theorem run_append_int {w : World} {base n c cx t e : Nat} {A : Option Addr} {l : List Value} {ad : Addr} {x : Int} (ht : P.underlying t = some (.slice e))
    (hi : (P.info? e).map (fun i => (i.zero, i.size, i.bytes)) = some (some (.int .i64 0), 1, 8)) (hown : w.ownsRow base e 1 (.slice A n c) n l) (hx : w.cell? ad = some (.int .i64 x)) (hlen : n ≤ 1000000) (hbase : base ≤ w.heap.size) (ty : TypeId) :
    ∃ A2 c2 w', (Builtin.append_ #[t, t] ty #[.slice A n c, .slice (some ad) 1 cx]).run P w = .ok (.slice A2 (n + 1) c2) w' ∧ w'.ownsRow base e 1 (.slice A2 (n + 1) c2) (n + 1) (l ++ [.int .i64 x]) ∧ w.grownBy w' (Value.slice A n c).ownBlock ∧ ((Value.slice A2 (n + 1) c2).ownBlock = (Value.slice A n c).ownBlock ∨ (Value.slice A2 (n + 1) c2).ownBlock = some w.heap.size) := by
  obtain ⟨i0, hi0, hz0, hz1, hz2⟩ := info_parts hi
  obtain ⟨v', w', hrun, h2, h3, _, h5⟩ := run_append_own_at (P := P) w base t ty e i0 (.int .i64 0) 1 8 ht hi0 hz0 hz1 hz2 rfl (by decide) _ n l hown ad 1 cx [.int .i64 x] rfl
    (fun j u hu => by
      match j, hu with
      | 0, hu =>
        simp at hu
        subst hu
        have ha : ad.add 0 = ad := by unfold Addr.add; split <;> simp_all
        rw [ha]; exact hx)
    (fun u hu => by simp at hu; subst hu; rfl) (by unfold maxLen; omega) (by omega) hbase
  obtain ⟨A2, c2, rfl⟩ := own_shape h2
  exact ⟨A2, c2, w', hrun, h2, h3, h5⟩
end
section
variable {w w' : World} {F G : Nat → Prop} {b g s : Nat} {A1 : Option Addr} {n1 c1 : Nat} {A2 : Option Addr} {n2 c2 : Nat} {A3 : Option Addr} {n3 c3 : Nat} {xs cs : List Nat} {M : List (List Nat)} {cl : Bool}
/-- The blocks of F, and what is new. -/
def GrowF (F : Nat → Prop) (w w' : World) : Nat → Prop := fun i => F i ∨ (w.heap.size ≤ i ∧ i < w'.heap.size)
namespace SrcA
theorem blt (h : SrcA w F b g s A1 n1 c1 A2 n2 c2 A3 n3 c3 xs cs M cl) : b < w.heap.size := h.lt b h.f0
/-- The ends are laid anew. -/
theorem put4 (h : SrcA w F b g s A1 n1 c1 A2 n2 c2 A3 n3 c3 xs cs M cl) {A4 : Option Addr} {n4 c4 : Nat} {M' : List (List Nat)} (t : Turned (fun i => (Value.slice A3 n3 c3).ownBlock = some i) w w') (h4 : OwnI w' 0 A4 n4 c4 (endsN M')) (h5 : (Value.slice A4 n4 c4).ownBlock = (Value.slice A3 n3 c3).ownBlock ∨ ∃ k, (Value.slice A4 n4 c4).ownBlock = some k ∧ w.heap.size ≤ k) :
    SrcA (w'.setCell ⟨b, 4, none⟩ (.slice A4 n4 c4)) (GrowF F w w') b g s A1 n1 c1 A2 n2 c2 A4 n4 c4 xs cs M' cl ∧ Turned F w (w'.setCell ⟨b, 4, none⟩ (.slice A4 n4 c4)) := by
  have hb := h.blt
  have t2 : Turned (fun i => i = b) w' (w'.setCell ⟨b, 4, none⟩ (.slice A4 n4 c4)) := Turned.set w' _ _ rfl
  have hblk : w'.heap[b]? = _ := (t.block b hb fun e => (h.f3 b e).2 rfl).trans h.block
  have hn : ∀ k, (Value.slice A4 n4 c4).ownBlock = some k → (Value.slice A3 n3 c3).ownBlock = some k ∨ w.heap.size ≤ k := fun k e => by
    rcases h5 with e1 | ⟨j, e1, hj⟩
    · exact Or.inl (e1 ▸ e)
    · rw [e1] at e; injection e with e; exact Or.inr (e ▸ hj)
  have hn4 : ∀ k, (Value.slice A4 n4 c4).ownBlock = some k → k ≠ b := fun k e => by
    rcases hn k e with e1 | e1
    · exact (h.f3 k e1).2
    · omega
  refine ⟨⟨by simp [World.setCell, Array.getElem?_modify, hblk], ?_, ?_, ?_, Or.inl h.f0, fun k e => ⟨Or.inl (h.f1 k e).1, (h.f1 k e).2⟩, fun k e => ⟨Or.inl (h.f2 k e).1, (h.f2 k e).2⟩, fun k e => ⟨?_, hn4 k e⟩, h.f12, fun k e1 e2 => ?_, fun k e1 e2 => ?_, fun i hi => ?_⟩, ?_⟩
  · exact (h.s1.turned t fun i e e2 => h.f13 i e e2).turned t2 fun i e e2 => (h.f1 i e).2 e2
  · exact (h.s2.turned t fun i e e2 => h.f23 i e e2).turned t2 fun i e e2 => (h.f2 i e).2 e2
  · exact h4.turned t2 fun i e e2 => hn4 i e e2
  · rcases hn k e with e1 | e1
    · exact Or.inl (h.f3 k e1).1
    · exact Or.inr ⟨e1, (h4.blt k e).2⟩
  · rcases hn k e2 with e3 | e3
    · exact h.f13 k e1 e3
    · have := h.lt k (h.f1 k e1).1; omega
  · rcases hn k e2 with e3 | e3
    · exact h.f23 k e1 e3
    · have := h.lt k (h.f2 k e1).1; omega
  · have hs : (w'.setCell ⟨b, 4, none⟩ (.slice A4 n4 c4)).heap.size = w'.heap.size := by simp [World.setCell]
    rw [hs]
    rcases hi with hi | hi
    · exact Nat.lt_of_lt_of_le (h.lt i hi) t.size
    · exact hi.2
  · exact (t.mono (F' := F) fun i _ e => (h.f3 i e).1).trans t2 fun i e => Or.inl (by rw [show i = b from e]; exact h.f0)
/-- The cuts are laid anew. -/
theorem put3 (h : SrcA w F b g s A1 n1 c1 A2 n2 c2 A3 n3 c3 xs cs M cl) {A4 : Option Addr} {n4 c4 : Nat} {cs' : List Nat} (t : Turned (fun i => (Value.slice A2 n2 c2).ownBlock = some i) w w') (h4 : OwnI w' 0 A4 n4 c4 cs') (h5 : (Value.slice A4 n4 c4).ownBlock = (Value.slice A2 n2 c2).ownBlock ∨ ∃ k, (Value.slice A4 n4 c4).ownBlock = some k ∧ w.heap.size ≤ k) :
    SrcA (w'.setCell ⟨b, 3, none⟩ (.slice A4 n4 c4)) (GrowF F w w') b g s A1 n1 c1 A4 n4 c4 A3 n3 c3 xs cs' M cl ∧ Turned F w (w'.setCell ⟨b, 3, none⟩ (.slice A4 n4 c4)) := by
  have hb := h.blt
  have t2 : Turned (fun i => i = b) w' (w'.setCell ⟨b, 3, none⟩ (.slice A4 n4 c4)) := Turned.set w' _ _ rfl
  have hblk : w'.heap[b]? = _ := (t.block b hb fun e => (h.f2 b e).2 rfl).trans h.block
  have hn : ∀ k, (Value.slice A4 n4 c4).ownBlock = some k → (Value.slice A2 n2 c2).ownBlock = some k ∨ w.heap.size ≤ k := fun k e => by
    rcases h5 with e1 | ⟨j, e1, hj⟩
    · exact Or.inl (e1 ▸ e)
    · rw [e1] at e; injection e with e; exact Or.inr (e ▸ hj)
  have hn4 : ∀ k, (Value.slice A4 n4 c4).ownBlock = some k → k ≠ b := fun k e => by
    rcases hn k e with e1 | e1
    · exact (h.f2 k e1).2
    · omega
  refine ⟨⟨by simp [World.setCell, Array.getElem?_modify, hblk], ?_, ?_, ?_, Or.inl h.f0, fun k e => ⟨Or.inl (h.f1 k e).1, (h.f1 k e).2⟩, fun k e => ⟨?_, hn4 k e⟩, fun k e => ⟨Or.inl (h.f3 k e).1, (h.f3 k e).2⟩, fun k e1 e2 => ?_, h.f13, fun k e1 e2 => ?_, fun i hi => ?_⟩, ?_⟩
  · exact (h.s1.turned t fun i e e2 => h.f12 i e e2).turned t2 fun i e e2 => (h.f1 i e).2 e2
  · exact h4.turned t2 fun i e e2 => hn4 i e e2
  · exact (h.s3.turned t fun i e e2 => h.f23 i e2 e).turned t2 fun i e e2 => (h.f3 i e).2 e2
  · rcases hn k e with e1 | e1
    · exact Or.inl (h.f2 k e1).1
    · exact Or.inr ⟨e1, (h4.blt k e).2⟩
  · rcases hn k e2 with e3 | e3
    · exact h.f12 k e1 e3
    · have := h.lt k (h.f1 k e1).1; omega
  · rcases hn k e1 with e3 | e3
    · exact h.f23 k e3 e2
    · have := h.lt k (h.f3 k e2).1; omega
  · have hs : (w'.setCell ⟨b, 3, none⟩ (.slice A4 n4 c4)).heap.size = w'.heap.size := by simp [World.setCell]
    rw [hs]
    rcases hi with hi | hi
    · exact Nat.lt_of_lt_of_le (h.lt i hi) t.size
    · exact hi.2
  · exact (t.mono (F' := F) fun i _ e => (h.f2 i e).1).trans t2 fun i e => Or.inl (by rw [show i = b from e]; exact h.f0)
/-- The stream is laid anew. -/
theorem put2 (h : SrcA w F b g s A1 n1 c1 A2 n2 c2 A3 n3 c3 xs cs M cl) {A4 : Option Addr} {n4 c4 : Nat} {xs' : List Nat} (t : Turned (fun i => (Value.slice A1 n1 c1).ownBlock = some i) w w') (h4 : Own w' 0 5 A4 n4 c4 xs') (h5 : (Value.slice A4 n4 c4).ownBlock = (Value.slice A1 n1 c1).ownBlock ∨ ∃ k, (Value.slice A4 n4 c4).ownBlock = some k ∧ w.heap.size ≤ k) :
    SrcA (w'.setCell ⟨b, 2, none⟩ (.slice A4 n4 c4)) (GrowF F w w') b g s A4 n4 c4 A2 n2 c2 A3 n3 c3 xs' cs M cl ∧ Turned F w (w'.setCell ⟨b, 2, none⟩ (.slice A4 n4 c4)) := by
  have hb := h.blt
  have t2 : Turned (fun i => i = b) w' (w'.setCell ⟨b, 2, none⟩ (.slice A4 n4 c4)) := Turned.set w' _ _ rfl
  have hblk : w'.heap[b]? = _ := (t.block b hb fun e => (h.f1 b e).2 rfl).trans h.block
  have hn : ∀ k, (Value.slice A4 n4 c4).ownBlock = some k → (Value.slice A1 n1 c1).ownBlock = some k ∨ w.heap.size ≤ k := fun k e => by
    rcases h5 with e1 | ⟨j, e1, hj⟩
    · exact Or.inl (e1 ▸ e)
    · rw [e1] at e; injection e with e; exact Or.inr (e ▸ hj)
  have hn4 : ∀ k, (Value.slice A4 n4 c4).ownBlock = some k → k ≠ b := fun k e => by
    rcases hn k e with e1 | e1
    · exact (h.f1 k e1).2
    · omega
  refine ⟨⟨by simp [World.setCell, Array.getElem?_modify, hblk], ?_, ?_, ?_, Or.inl h.f0, fun k e => ⟨?_, hn4 k e⟩, fun k e => ⟨Or.inl (h.f2 k e).1, (h.f2 k e).2⟩, fun k e => ⟨Or.inl (h.f3 k e).1, (h.f3 k e).2⟩, fun k e1 e2 => ?_, fun k e1 e2 => ?_, h.f23, fun i hi => ?_⟩, ?_⟩
  · exact h4.turned t2 fun i e e2 => hn4 i e e2
  · exact (h.s2.turned t fun i e e2 => h.f12 i e2 e).turned t2 fun i e e2 => (h.f2 i e).2 e2
  · exact (h.s3.turned t fun i e e2 => h.f13 i e2 e).turned t2 fun i e e2 => (h.f3 i e).2 e2
  · rcases hn k e with e1 | e1
    · exact Or.inl (h.f1 k e1).1
    · exact Or.inr ⟨e1, (h4.blt k e).2⟩
  · rcases hn k e1 with e3 | e3
    · exact h.f12 k e3 e2
    · have := h.lt k (h.f2 k e2).1; omega
  · rcases hn k e1 with e3 | e3
    · exact h.f13 k e3 e2
    · have := h.lt k (h.f3 k e2).1; omega
  · have hs : (w'.setCell ⟨b, 2, none⟩ (.slice A4 n4 c4)).heap.size = w'.heap.size := by simp [World.setCell]
    rw [hs]
    rcases hi with hi | hi
    · exact Nat.lt_of_lt_of_le (h.lt i hi) t.size
    · exact hi.2
  · exact (t.mono (F' := F) fun i _ e => (h.f1 i e).1).trans t2 fun i e => Or.inl (by rw [show i = b from e]; exact h.f0)
end SrcA
theorem GrowF.new {F : Nat → Prop} {w w' : World} {i : Nat} (h : GrowF F w w' i) : F i ∨ w.heap.size ≤ i := h.imp id fun h => h.1
end
end Go.Proofs.YtgelalbmhllccaaGreat
