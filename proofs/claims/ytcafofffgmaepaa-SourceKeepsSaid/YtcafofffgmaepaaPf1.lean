/- Words for the walks of stage 9's statements. -/
import Derived.Test.YtcafofffgmaepaaPaw
namespace Go.Proofs.Ytcafofffgmaepaa
open Go.RowKit
set_option linter.unusedVariables false
set_option linter.unusedSimpArgs false
theorem run_least (a b m : Nat) (B : Int) (hB : B = (b : Int)) (h : min a b = m) (w : World) : (Builtin.min_ #[3, 3] 3 #[.int .i64 (a : Int), .int .i64 B]).run Try.prog w = .ok (.int .i64 (m : Int)) w := by
  subst hB
  rw [run_min_int2]; congr 2; split <;> omega
theorem run_head {P : Program} {t : TypeId} {z : Value} {q : Nat} (ht : P.underlying t = some (.slice (P.elem t))) (hi : (P.info? (P.elem t)).map (fun i => (i.zero, i.size, i.bytes)) = some (some z, 1, q)) (n m c : Nat) (A : Option Addr) (h : n ≤ c) (w : World) :
    (Instr.slice t (.slice A m c) none (some (.int .i64 (n : Int))) none).run P w = .ok (.slice A n c) w := by
  obtain ⟨i0, hi0, hz0, hz1, hz2⟩ := info_parts hi
  rw [run_slice_h (P := P) (w := w) t A m c ht .i64 n (by omega) (by omega)]
  have ha : A.map (fun x : Addr => x.add 0) = A := by
    cases A with
    | none => rfl
    | some a =>
      obtain ⟨b, off, spot⟩ := a
      simp [Addr.add]
  simp [sizeOf, typeInfo, hi0, hz1, sliced, ha]
theorem infoInt : (Try.prog.info? 3).map (fun i => (i.zero, i.size, i.bytes)) = some (some (.int .i64 0), 1, 8) := by kernel_rfl
set_option maxRecDepth 100000 in
theorem head_rows (n m c : Nat) (A : Option Addr) (h : n ≤ c) (w : World) : (Instr.slice 49 (.slice A m c) none (some (.int .i64 (n : Int))) none).run Try.prog w = .ok (.slice A n c) w :=
  run_head (by kernel_rfl) infoRow n m c A h w
set_option maxRecDepth 100000 in
theorem head_bytes (n m c : Nat) (A : Option Addr) (h : n ≤ c) (w : World) : (Instr.slice 22 (.slice A m c) none (some (.int .i64 (n : Int))) none).run Try.prog w = .ok (.slice A n c) w :=
  run_head (by kernel_rfl) info5 n m c A h w
set_option maxRecDepth 100000 in
theorem head_ints (n m c : Nat) (A : Option Addr) (h : n ≤ c) (w : World) : (Instr.slice 23 (.slice A m c) none (some (.int .i64 (n : Int))) none).run Try.prog w = .ok (.slice A n c) w :=
  run_head (by kernel_rfl) infoInt n m c A h w
theorem RowsAt.head {w : World} {B n k : Nat} {A : Option Addr} {rs : List RowV} (h : RowsAt w B A n rs) (hk : k ≤ n) : RowsAt w B A k (rs.take k) :=
  ⟨by rw [List.length_take, h.1]; omega, fun r hr => h.2.1 r (List.mem_of_mem_take hr), fun hp => by
    obtain ⟨b, off, e, hb, hc⟩ := h.2.2 (by omega)
    exact ⟨b, off, e, hb, fun i r hi => hc i r (by rw [List.getElem?_take] at hi; split at hi <;> first | exact hi | cases hi)⟩⟩
theorem IntsAt.head {w : World} {B n k : Nat} {A : Option Addr} {l : List Int} (h : IntsAt w B A n l) (hk : k ≤ n) : IntsAt w B A k (l.take k) :=
  ⟨by rw [List.length_take, h.1]; omega, fun hp => by
    obtain ⟨b, off, e, hb, hc⟩ := h.2 (by omega)
    exact ⟨b, off, e, hb, fun i z hi => hc i z (by rw [List.getElem?_take] at hi; split at hi <;> first | exact hi | cases hi)⟩⟩
/-- Two cells of its own. -/
def Pair2 (w : World) (g : Nat) (u v : Value) (t : TypeId) : Prop := w.heap[g]? = some (.cells #[u, v] t (0, 0))
namespace Pair2
variable {w w' : World} {g : Nat} {u v : Value} {t : TypeId}
theorem new (w : World) (u v : Value) (t : TypeId) : Pair2 (w.alloc (.cells #[u, v] t)) w.heap.size u v t := heap_alloc_new w _
theorem cell0 (h : Pair2 w g u v t) : w.cell? ⟨g, 0, none⟩ = some u := by unfold Pair2 at h; simp [World.cell?, h]
theorem cell1 (h : Pair2 w g u v t) : w.cell? ⟨g, 1, none⟩ = some v := by unfold Pair2 at h; simp [World.cell?, h]
theorem free (h : Pair2 w g u v t) (i : Nat) : w.frozen? ⟨g, i, none⟩ = false := by unfold Pair2 at h; simp [World.frozen?, h]
theorem lt (h : Pair2 w g u v t) : g < w.heap.size := lt_of_block h
theorem keep (h : Pair2 w g u v t) (k : Keep w w') : Pair2 w' g u v t := (k.block g (lt_of_block h)).trans h
theorem put0 {x : Value} (h : Pair2 w g u v t) : Pair2 (w.setCell ⟨g, 0, none⟩ x) g x v t := by
  unfold Pair2 at h ⊢; simp [World.setCell, Array.getElem?_modify, h]
theorem put1 {x : Value} (h : Pair2 w g u v t) : Pair2 (w.setCell ⟨g, 1, none⟩ x) g u x t := by
  unfold Pair2 at h ⊢; simp [World.setCell, Array.getElem?_modify, h]
end Pair2
/-- Turning a byte. -/
theorem xor_byte (y : Nat) : ∃ z : Nat, bits .xor .u8 (y : Int) 255 = (z : Int) ∧ z < 256 := by
  have h := bits_within .xor .u8 (y : Int) 255
  have h1 : (IntKind.u8).min = 0 := rfl
  have h2 : (IntKind.u8).max = 255 := rfl
  rw [h1, h2] at h
  obtain ⟨z, hz⟩ := Int.eq_ofNat_of_zero_le h.1
  exact ⟨z, hz, by omega⟩
theorem NewRows.rowsIn {w w' : World} {M : List (List Nat)} {er : Int} {e : Ending} (h : NewRows w M er e w') : ∃ A n c rs, e = .returned (.tuple #[.slice A n c, .int .i64 er]) ∧ RowsIn w' (fun b => b < w'.heap.size) A n rs ∧ rowsXs rs = M ∧ Keep w w' := by
  obtain ⟨A, n, c, rfl, rs, hr, _, hx, k⟩ := h
  exact ⟨A, n, c, rs, rfl, hr.mono fun b hb => hb.2, hx, k⟩
end Go.Proofs.Ytcafofffgmaepaa
