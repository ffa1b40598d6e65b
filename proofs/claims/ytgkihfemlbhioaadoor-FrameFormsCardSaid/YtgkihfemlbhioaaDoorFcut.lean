/- Slices cut at their heads; numbers' sizes. -/
import Derived.Test.YtgkihfemlbhioaaDoorNew
import Derived.Test.YtgkihfemlbhioaaDoorForm
namespace Go.Proofs.YtgkihfemlbhioaaDoor
open Go.RowKit
/-- What laying a number answers. -/
def laysOf (xs : List Nat) (v s : Nat) : List Nat := if v < 256 ^ s then xs ++ formN s v else []
def laysErr (v s : Nat) : Int := if v < 256 ^ s then 0 else 3
theorem own_le {w : World} {base n c : Nat} {e : TypeId} {A : Option Addr} {xs : List Nat} (h : Own w base e A n c xs) : n ≤ c := by
  rcases h.1.2 with ⟨hv, h0⟩ | ⟨g, cap, cur, hv, _, _, hle, _⟩
  · omega
  · injection hv with _ _ h3; omega
/-- The address of a slice cut at its head. -/
def cutA (A : Option Addr) (c s : Nat) : Option Addr := if c = s then A else A.map (·.add s)
theorem run_cut (n c s : Nat) (A : Option Addr) (hs : s ≤ n) (w : World) :
    (Instr.slice 23 (.slice A n c) (some (.int .i64 (s : Int))) none none).run Tryd.prog w = .ok (.slice (cutA A c s) (n - s) (c - s)) w := by
  have ht : Tryd.prog.underlying 23 = some (.slice (Tryd.prog.elem 23)) := by kernel_rfl
  obtain ⟨i0, hi0, hz0, hz1, hz2⟩ := info_parts info5
  have he : Tryd.prog.elem 23 = 5 := by kernel_rfl
  rw [run_slice_l (P := Tryd.prog) (w := w) 23 A n c ht .i64 s (by omega) (by omega), he]
  simp [sizeOf, typeInfo, hi0, hz1, sliced, cutA]
theorem Bytes.drop {w : World} {B n c s : Nat} {A : Option Addr} {xs : List Nat} (h : Bytes w B A n xs) (hc : n ≤ c) : Bytes w B (cutA A c s) (n - s) (xs.drop s) := by
  refine ⟨by rw [List.length_drop, h.1], fun x hx => h.2.1 x (List.mem_of_mem_drop hx), fun hp => ?_⟩
  obtain ⟨b, off, rfl, hb, hcell⟩ := h.2.2 (by omega)
  refine ⟨b, off + s, ?_, hb, fun i hi => ?_⟩
  · rw [cutA, if_neg (by omega)]
    simp only [Option.map_some, Addr.add]
    split <;> simp_all
  · rw [Nat.add_assoc, hcell (s + i) (by omega)]
    simp [List.getD_eq_getElem?_getD, List.getElem?_drop]
theorem valN_lt64 (L : List Nat) (s : Nat) (h : AllB L) (hs : s ≤ 8) : valN (L.take s) < 18446744073709551616 := by
  have h1 := valN_lt (L.take s) (h.take s)
  have h2 : 256 ^ (L.take s).length ≤ 256 ^ 8 := Nat.pow_le_pow_right (by decide) (by rw [List.length_take]; omega)
  exact Nat.lt_of_lt_of_le h1 h2
end Go.Proofs.YtgkihfemlbhioaaDoor
