/- Slices of slices of bytes, made and stored to. -/
import Derived.Test.YtcjjhblgejkkeaaGreatRows2
import Derived.Laws.MakeOwn
namespace Go.Proofs.YtcjjhblgejkkeaaGreat
open Go.RowKit
theorem run_make_rows {P : Program} {t e : TypeId} (ht : P.underlying t = some (.slice e)) (hi : (P.info? e).map (fun i => (i.zero, i.size, i.bytes)) = some (some (.slice none 0 0), 1, 24)) (n : Nat) (hn : n ≤ 1000000) (w : World) :
    (Instr.makeSlice t (.int .i64 (n : Int)) (.int .i64 (n : Int))).run P w = .ok (.slice (some ⟨w.heap.size, 0, none⟩) n n) (w.alloc (.cells (madeCells #[.slice none 0 0] n) e)) := by
  obtain ⟨i0, hi0, hz0, hz1, hz2⟩ := info_parts hi
  have h := run_make (P := P) w t e i0 (.slice none 0 0) ht hi0 hz0 .i64 .i64 n n (by omega) (Int.le_refl _) (by rw [hz2]; omega) (by omega)
  simpa [hz1, Value.cells] using h
theorem OwnRows.made (w : World) (e : TypeId) (n : Nat) (hn : n ≤ 1000000) : OwnRows (w.alloc (.cells (madeCells #[.slice none 0 0] n) e)) w.heap.size e (some ⟨w.heap.size, 0, none⟩) n n (List.replicate n ⟨none, 0, 0, []⟩) := by
  have h := World.ownsRow_lit (w := w) (base := w.heap.size) (e := e) (size := 1) (madeCells #[.slice none 0 0] n) n (Nat.le_refl _) (by unfold maxLen; omega) (by rw [size_madeCells]; simp)
  rw [toList_madeCells_one] at h
  simpa [OwnRows, RowV.val] using h
theorem OwnRows.stored {w : World} {base n c g i : Nat} {e : TypeId} {rs : List RowV} (h : OwnRows w base e (some ⟨g, 0, none⟩) n c rs) (r : RowV) : OwnRows (w.setCell ⟨g, i, none⟩ (.slice r.A r.n r.c)) base e (some ⟨g, 0, none⟩) n c (rs.set i r) := by
  have := World.ownsRow.stored h i (.slice r.A r.n r.c)
  unfold OwnRows
  rw [List.map_set]; exact this.1
end Go.Proofs.YtcjjhblgejkkeaaGreat
