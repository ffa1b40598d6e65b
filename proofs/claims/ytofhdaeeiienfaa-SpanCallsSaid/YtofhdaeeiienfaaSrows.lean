/- Arguments that are slices of slices of bytes, as matrices. -/
import Derived.Test.YtofhdaeeiienfaaSw
namespace Go.Proofs.Ytofhdaeeiienfaa
open Go.RowKit
theorem Mat.of_at {W : World} {A : Option Addr} {n c : Nat} {rs : List RowV} (h : RowsAt W W.heap.size A n rs) (hc : n ≤ c) : Mat W ⟨A, n, c, rowsXs rs⟩ :=
  ⟨rs, ⟨h.1, fun r hr => LiesIn.of_bytes (h.2.1 r hr).1 (h.2.1 r hr).2.2, fun hp => by
    obtain ⟨b, off, e, hb, hc⟩ := h.2.2 hp
    exact ⟨b, off, e, hb, hc⟩⟩, rfl, hc⟩
theorem all_of {W : World} {A : Option Addr} {n : Nat} {rs : List RowV} (h : RowsAt W W.heap.size A n rs) : ∀ x ∈ rowsXs rs, AllB x := fun x hx => by
  obtain ⟨r, hr, rfl⟩ := List.mem_map.1 hx
  exact (h.2.1 r hr).1.all
end Go.Proofs.Ytofhdaeeiienfaa
