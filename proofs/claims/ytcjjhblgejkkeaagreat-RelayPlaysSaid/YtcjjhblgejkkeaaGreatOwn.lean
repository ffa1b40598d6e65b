/- Bytes in new memory (the document's own); bytes.Equal. -/
import Derived.Test.YtcjjhblgejkkeaaGreatNew
import Derived.OneCell
namespace Go.Proofs.YtcjjhblgejkkeaaGreat
open Go.RowKit
set_option maxRecDepth 100000 in
theorem rown_any (B n c : Nat) (A : Option Addr) (xs : List Nat) (w : World) (h : Bytes w B A n xs) (hn : n ≤ 140737488355328) :
    Calls Tryz.prog 139 #[.slice A n c] w (NewBytes w xs) := by
  go_enter Tryz.func139, Tryz.ntmps139
  go_wp2_with (at_builtin; refine wpList_append_bytes rfl _ _ 32 rfl Tryz.underlying32 info5 rfl (Own.none_ w w.heap.size 5) rfl h ?c1 (Nat.le_refl _) ?_)
  case c1 => omega
  intro A' c' w' hown hgr _
  have hk : Keep w w' := (Keep.refl w).grown hgr (fun k hk => by cases hk)
  go_wp2_with fail
  go_ret
  exact ⟨A', _, c', rfl, by simpa using hown, hk⟩
end Go.Proofs.YtcjjhblgejkkeaaGreat
