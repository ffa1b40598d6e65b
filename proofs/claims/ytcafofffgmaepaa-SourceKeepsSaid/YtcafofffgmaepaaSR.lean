/- The document's own source: how it lies; its chunks, Submit, Flush, Close. -/
import Derived.Test.YtcafofffgmaepaaSm1
import Derived.Test.YtcafofffgmaepaaSY
import Derived.Test.YtcafofffgmaepaaPd
import Derived.Test.YtcafofffgmaepaaSZ
import Derived.Test.YtcafofffgmaepaaDD
import Derived.Test.YtcafofffgmaepaaBC
namespace Go.Proofs.Ytcafofffgmaepaa
open Go.RowKit
set_option linter.unusedVariables false
set_option linter.unusedSimpArgs false
/-- Ints in blocks of F. -/
def NatsIn (w : World) (F : Nat → Prop) (A : Option Addr) (n : Nat) (l : List Nat) : Prop :=
  l.length = n ∧ (0 < n → ∃ b off, A = some ⟨b, off, none⟩ ∧ F b ∧ ∀ (i : Nat) (z : Int), (l.map fun x : Nat => (x : Int))[i]? = some z → w.cell? ⟨b, off + i, none⟩ = some (.int .i64 z))
namespace NatsIn
variable {F F' G : Nat → Prop} {w w' : World} {A : Option Addr} {n : Nat} {l : List Nat}
theorem turned (h : NatsIn w F A n l) (k : Turned G w w') (hd : ∀ b, F b → ¬ G b) : NatsIn w' F A n l := ⟨h.1, fun hp => by
  obtain ⟨b, off, e, hb, hc⟩ := h.2 hp
  exact ⟨b, off, e, hb, fun i z hz => k.cell (hc i z hz) (hd b hb)⟩⟩
theorem mono (h : NatsIn w F A n l) (hF : ∀ b, F b → F' b) : NatsIn w F' A n l := ⟨h.1, fun hp => by
  obtain ⟨b, off, e, hb, hc⟩ := h.2 hp
  exact ⟨b, off, e, hF b hb, hc⟩⟩
theorem nats (h : NatsIn w F A n l) {B : Nat} (hF : ∀ b, F b → b < B) : NatsAt w B A n l := ⟨by rw [List.length_map]; exact h.1, fun hp => by
  obtain ⟨b, off, e, hb, hc⟩ := h.2 hp
  exact ⟨b, off, e, hF b hb, hc⟩⟩
theorem of_own {base c : Nat} (h : OwnI w base A n c l) : NatsIn w (fun b => (Value.slice A n c).ownBlock = some b) A n l := by
  refine ⟨h.length, fun hn => ?_⟩
  obtain ⟨b, off, e, hb, hc⟩ := h.nats.2 hn
  refine ⟨b, off, e, ?_, hc⟩
  rcases h.2 with ⟨hv, h0⟩ | ⟨g, cap, cur, hv, _⟩
  · omega
  · injection hv with h1 _ _
    subst h1
    injection e with e
    injection e with e
    show some g = some b
    rw [e]
end NatsIn
/-- The document's source at b; what it reads lies in blocks of E. -/
structure RefA (w : World) (E : Nat → Prop) (b g s : Nat) (A1 : Option Addr) (n1 c1 : Nat) (A2 : Option Addr) (n2 c2 : Nat) (xs cs : List Nat) (cl : Bool) : Prop where
  block : w.heap[b]? = some (.cells #[.int .i64 (g : Int), .int .i64 (s : Int), .slice A1 n1 c1, .slice A2 n2 c2, .bool cl] 66 (0, 0))
  st : LiesIn w (fun x => E x ∧ x ≠ b) ⟨A1, n1, c1, xs⟩
  cu : NatsIn w (fun x => E x ∧ x ≠ b) A2 n2 cs
  e0 : E b
  lt : ∀ k, E k → k < w.heap.size
section
variable {w w' : World} {E G : Nat → Prop} {b g s : Nat} {A1 : Option Addr} {n1 c1 : Nat} {A2 : Option Addr} {n2 c2 : Nat} {xs cs : List Nat} {cl : Bool}
namespace RefA
theorem turned (h : RefA w E b g s A1 n1 c1 A2 n2 c2 xs cs cl) (k : Turned G w w') (hd : ∀ i, E i → ¬ G i) : RefA w' E b g s A1 n1 c1 A2 n2 c2 xs cs cl :=
  ⟨(k.block b (h.lt b h.e0) (hd b h.e0)).trans h.block, h.st.turned k fun i e => hd i e.1, h.cu.turned k fun i e => hd i e.1, h.e0, fun i hi => Nat.lt_of_lt_of_le (h.lt i hi) k.size⟩
theorem keep (h : RefA w E b g s A1 n1 c1 A2 n2 c2 xs cs cl) (k : Keep w w') : RefA w' E b g s A1 n1 c1 A2 n2 c2 xs cs cl := h.turned (Turned.of_keep (F := fun _ => False) k) fun _ _ e => e
theorem x0 (h : RefA w E b g s A1 n1 c1 A2 n2 c2 xs cs cl) : w.cell? ⟨b, 0, none⟩ = some (.int .i64 (g : Int)) := by simp [World.cell?, h.block]
theorem x1 (h : RefA w E b g s A1 n1 c1 A2 n2 c2 xs cs cl) : w.cell? ⟨b, 1, none⟩ = some (.int .i64 (s : Int)) := by simp [World.cell?, h.block]
theorem x2 (h : RefA w E b g s A1 n1 c1 A2 n2 c2 xs cs cl) : w.cell? ⟨b, 2, none⟩ = some (.slice A1 n1 c1) := by simp [World.cell?, h.block]
theorem x3 (h : RefA w E b g s A1 n1 c1 A2 n2 c2 xs cs cl) : w.cell? ⟨b, 3, none⟩ = some (.slice A2 n2 c2) := by simp [World.cell?, h.block]
theorem x4 (h : RefA w E b g s A1 n1 c1 A2 n2 c2 xs cs cl) : w.cell? ⟨b, 4, none⟩ = some (.bool cl) := by simp [World.cell?, h.block]
theorem free (h : RefA w E b g s A1 n1 c1 A2 n2 c2 xs cs cl) (i : Nat) : w.frozen? ⟨b, i, none⟩ = false := by simp [World.frozen?, h.block]
theorem bytes (h : RefA w E b g s A1 n1 c1 A2 n2 c2 xs cs cl) : Bytes w w.heap.size A1 n1 xs := h.st.bytes fun k e => h.lt k e.1
theorem nats (h : RefA w E b g s A1 n1 c1 A2 n2 c2 xs cs cl) : NatsAt w w.heap.size A2 n2 cs := h.cu.nats fun k e => h.lt k e.1
theorem n1eq (h : RefA w E b g s A1 n1 c1 A2 n2 c2 xs cs cl) : xs.length = n1 := h.st.1
theorem n2eq (h : RefA w E b g s A1 n1 c1 A2 n2 c2 xs cs cl) : cs.length = n2 := h.cu.1
theorem cap (h : RefA w E b g s A1 n1 c1 A2 n2 c2 xs cs cl) : n1 ≤ c1 := h.st.2.2.1
/-- A field is laid anew. -/
theorem put2 (h : RefA w E b g s A1 n1 c1 A2 n2 c2 xs cs cl) {A4 : Option Addr} {n4 c4 : Nat} {ys : List Nat} {D : Nat → Prop} (hs : LiesIn w D ⟨A4, n4, c4, ys⟩) (hD : ∀ k, D k → k ≠ b ∧ k < w.heap.size) :
    RefA (w.setCell ⟨b, 2, none⟩ (.slice A4 n4 c4)) (fun k => E k ∨ D k) b g s A4 n4 c4 A2 n2 c2 ys cs cl ∧ Turned (fun i => i = b) w (w.setCell ⟨b, 2, none⟩ (.slice A4 n4 c4)) := by
  have t : Turned (fun i => i = b) w (w.setCell ⟨b, 2, none⟩ (.slice A4 n4 c4)) := Turned.set w _ _ rfl
  refine ⟨⟨by simp [World.setCell, Array.getElem?_modify, h.block], (hs.turned t fun i e => (hD i e).1).mono fun k e => ⟨Or.inr e, (hD k e).1⟩, (h.cu.turned t fun i e => e.2).mono fun k e => ⟨Or.inl e.1, e.2⟩, Or.inl h.e0, fun k e => ?_⟩, t⟩
  have hz : (w.setCell ⟨b, 2, none⟩ (.slice A4 n4 c4)).heap.size = w.heap.size := by simp [World.setCell]
  rw [hz]
  rcases e with e | e
  · exact h.lt k e
  · exact (hD k e).2
theorem put3 (h : RefA w E b g s A1 n1 c1 A2 n2 c2 xs cs cl) {A4 : Option Addr} {n4 c4 : Nat} {ys : List Nat} {D : Nat → Prop} (hs : NatsIn w D A4 n4 ys) (hD : ∀ k, D k → k ≠ b ∧ k < w.heap.size) :
    RefA (w.setCell ⟨b, 3, none⟩ (.slice A4 n4 c4)) (fun k => E k ∨ D k) b g s A1 n1 c1 A4 n4 c4 xs ys cl ∧ Turned (fun i => i = b) w (w.setCell ⟨b, 3, none⟩ (.slice A4 n4 c4)) := by
  have t : Turned (fun i => i = b) w (w.setCell ⟨b, 3, none⟩ (.slice A4 n4 c4)) := Turned.set w _ _ rfl
  refine ⟨⟨by simp [World.setCell, Array.getElem?_modify, h.block], (h.st.turned t fun i e => e.2).mono fun k e => ⟨Or.inl e.1, e.2⟩, (hs.turned t fun i e => (hD i e).1).mono fun k e => ⟨Or.inr e, (hD k e).1⟩, Or.inl h.e0, fun k e => ?_⟩, t⟩
  have hz : (w.setCell ⟨b, 3, none⟩ (.slice A4 n4 c4)).heap.size = w.heap.size := by simp [World.setCell]
  rw [hz]
  rcases e with e | e
  · exact h.lt k e
  · exact (hD k e).2
theorem put4 (h : RefA w E b g s A1 n1 c1 A2 n2 c2 xs cs cl) (cl' : Bool) :
    RefA (w.setCell ⟨b, 4, none⟩ (.bool cl')) E b g s A1 n1 c1 A2 n2 c2 xs cs cl' ∧ Turned (fun i => i = b) w (w.setCell ⟨b, 4, none⟩ (.bool cl')) := by
  have t : Turned (fun i => i = b) w (w.setCell ⟨b, 4, none⟩ (.bool cl')) := Turned.set w _ _ rfl
  exact ⟨⟨by simp [World.setCell, Array.getElem?_modify, h.block], h.st.turned t fun i e => e.2, h.cu.turned t fun i e => e.2, h.e0, fun k e => Nat.lt_of_lt_of_le (h.lt k e) t.size⟩, t⟩
end RefA
def RefR (w : World) (E : Nat → Prop) (b g s : Nat) (xs cs : List Nat) (cl : Bool) : Prop := ∃ A1 n1 c1 A2 n2 c2, RefA w E b g s A1 n1 c1 A2 n2 c2 xs cs cl
theorem RefR.turned (h : RefR w E b g s xs cs cl) (k : Turned G w w') (hd : ∀ i, E i → ¬ G i) : RefR w' E b g s xs cs cl := by
  obtain ⟨A1, n1, c1, A2, n2, c2, h⟩ := h
  exact ⟨_, _, _, _, _, _, h.turned k hd⟩
theorem RefR.keep (h : RefR w E b g s xs cs cl) (k : Keep w w') : RefR w' E b g s xs cs cl := h.turned (Turned.of_keep (F := fun _ => False) k) fun _ _ e => e
theorem RefR.lt (h : RefR w E b g s xs cs cl) : ∀ i, E i → i < w.heap.size := by
  obtain ⟨A1, n1, c1, A2, n2, c2, h⟩ := h
  exact h.lt
theorem RefR.at_ (h : RefR w E b g s xs cs cl) : E b := by
  obtain ⟨A1, n1, c1, A2, n2, c2, h⟩ := h
  exact h.e0
/-- What its Chunks hands back. -/
def NewChR (w : World) (M : List (List Nat)) (O : List Nat) (e : Ending) (w' : World) : Prop :=
  ∃ A n c A' n' c', e = .returned (.tuple #[.slice A n c, .slice A' n' c']) ∧ (∃ rs, RowsIn w' (fun b => w.heap.size ≤ b ∧ b < w'.heap.size) A n rs ∧ n ≤ c ∧ rowsXs rs = M) ∧ Own w' w.heap.size 5 A' n' c' O ∧ Keep w w'
set_option maxRecDepth 100000 in
set_option maxHeartbeats 2000000 in
theorem rchunks_any {P : Nat} (h : RefR w E b g s xs cs cl) (hz : SizeS g s P) (hle : ∀ x ∈ cs, x ≤ xs.length) (hso : ∀ (i j x y : Nat), i ≤ j → cs[i]? = some x → cs[j]? = some y → x ≤ y) (hl : xs.length ≤ 100000) (hc : cs.length ≤ 140737488351232) :
    Calls Try.prog 57 #[.pointer (some ⟨b, 0, none⟩)] w (NewChR w (gensN (P - 4) cs xs) (openN (P - 4) cs xs)) := by
  obtain ⟨A1, n1, c1, A2, n2, c2, h⟩ := h
  have e1 := h.n1eq
  have e2 := h.n2eq
  have HX0 : Hid (∀ wq, Keep w wq → wq.cell? ⟨b, 0, none⟩ = some (.int .i64 (g : Int))) := fun wq k => (h.keep k).x0
  have HX1 : Hid (∀ wq, Keep w wq → wq.cell? ⟨b, 1, none⟩ = some (.int .i64 (s : Int))) := fun wq k => (h.keep k).x1
  have HX2 : Hid (∀ wq, Keep w wq → wq.cell? ⟨b, 2, none⟩ = some (.slice A1 n1 c1)) := fun wq k => (h.keep k).x2
  have HX3 : Hid (∀ wq, Keep w wq → wq.cell? ⟨b, 3, none⟩ = some (.slice A2 n2 c2)) := fun wq k => (h.keep k).x3
  have HC : Hid (∀ wq, Keep w wq → Calls Try.prog 50 #[.slice A1 n1 c1, .slice A2 n2 c2, .int .i64 (g : Int), .int .i64 (s : Int)] wq (NewChunks wq (gensN (P - 4) cs xs) (openN (P - 4) cs xs) 0)) := fun wq k => by
    have := rchunks_in g s P n1 n2 hz.g0 hz.g1 hz.s0 hz.s1 hz.int hz.lo hz.hi (by omega) (by omega) A1 A2 c1 c2 xs cs wq (h.keep k).bytes h.cap (h.keep k).nats (by rw [← e1]; exact hle) hso
    rw [show (chunkN (P - 4) cs xs (n1 + 1)).1 = gensN (P - 4) cs xs by rw [gensN, e1], show xs.drop (chunkN (P - 4) cs xs (n1 + 1)).2 = openN (P - 4) cs xs by rw [openN, fromN, e1]] at this
    exact this
  generalize gensN (P - 4) cs xs = M at *
  generalize openN (P - 4) cs xs = O at *
  clear h hle hso hl hc e1 e2 hz
  go_enter Try.func57, Try.ntmps57
  go_wp2_with fail
  refine wp_region_noPanic ?_
  refine wp_region_held_drew (S := fun wz => Keep w wz) (by kernel_rfl) (Keep.drew (Keep.refl w)) (fun hHeld => ?_)
  refine wpAnyH_take (i := 0) (v := ?_) rfl (by kernel_rfl) (by kernel_rfl) (by kernel_rfl) (fun _ _ _ h => h) (Or.inl ⟨by rfl, ?_⟩) hHeld ?_
  rotate_left
  · intro wq hSw
    go_simp
    all_goals with_reducible rfl
  try simp only [Act.put, List.getElem_toArray, List.getElem_cons_succ, List.getElem_cons_zero, List.setIfInBounds_toArray, List.set_cons_zero, List.set_cons_succ]
  refine wpAnyH_take (i := 1) (v := ?_) rfl (by kernel_rfl) (by kernel_rfl) (by kernel_rfl) (fun _ _ _ h => h) (Or.inl ⟨by rfl, ?_⟩) hHeld ?_
  rotate_left
  · intro wq hSw
    go_simp
    all_goals with_reducible rfl
  try simp only [Act.put, List.getElem_toArray, List.getElem_cons_succ, List.getElem_cons_zero, List.setIfInBounds_toArray, List.set_cons_zero, List.set_cons_succ]
  refine wpAnyH_take (i := 2) (v := ?_) rfl (by kernel_rfl) (by kernel_rfl) (by kernel_rfl) (fun _ _ _ h => h) (Or.inl ⟨by rfl, ?_⟩) hHeld ?_
  rotate_left
  · intro wq hSw
    go_simp
    all_goals with_reducible rfl
  try simp only [Act.put, List.getElem_toArray, List.getElem_cons_succ, List.getElem_cons_zero, List.setIfInBounds_toArray, List.set_cons_zero, List.set_cons_succ]
  refine wpAnyH_take (i := 3) (v := ?_) rfl (by kernel_rfl) (by kernel_rfl) (by kernel_rfl) (fun _ _ _ h => h) (Or.inl ⟨by rfl, ?_⟩) hHeld ?_
  rotate_left
  · intro wq hSw
    have q0 := HX2.out wq hSw
    go_simp
    all_goals with_reducible rfl
  try simp only [Act.put, List.getElem_toArray, List.getElem_cons_succ, List.getElem_cons_zero, List.setIfInBounds_toArray, List.set_cons_zero, List.set_cons_succ]
  refine wpAnyH_take (i := 4) (v := ?_) rfl (by kernel_rfl) (by kernel_rfl) (by kernel_rfl) (fun _ _ _ h => h) (Or.inl ⟨by rfl, ?_⟩) hHeld ?_
  rotate_left
  · intro wq hSw
    go_simp
    all_goals with_reducible rfl
  try simp only [Act.put, List.getElem_toArray, List.getElem_cons_succ, List.getElem_cons_zero, List.setIfInBounds_toArray, List.set_cons_zero, List.set_cons_succ]
  refine wpAnyH_take (i := 5) (v := ?_) rfl (by kernel_rfl) (by kernel_rfl) (by kernel_rfl) (fun _ _ _ h => h) (Or.inl ⟨by rfl, ?_⟩) hHeld ?_
  rotate_left
  · intro wq hSw
    go_simp
    all_goals with_reducible rfl
  try simp only [Act.put, List.getElem_toArray, List.getElem_cons_succ, List.getElem_cons_zero, List.setIfInBounds_toArray, List.set_cons_zero, List.set_cons_succ]
  refine wpAnyH_take (i := 6) (v := ?_) rfl (by kernel_rfl) (by kernel_rfl) (by kernel_rfl) (fun _ _ _ h => h) (Or.inl ⟨by rfl, ?_⟩) hHeld ?_
  rotate_left
  · intro wq hSw
    go_simp
    all_goals with_reducible rfl
  try simp only [Act.put, List.getElem_toArray, List.getElem_cons_succ, List.getElem_cons_zero, List.setIfInBounds_toArray, List.set_cons_zero, List.set_cons_succ]
  refine wpAnyH_take (i := 7) (v := ?_) rfl (by kernel_rfl) (by kernel_rfl) (by kernel_rfl) (fun _ _ _ h => h) (Or.inl ⟨by rfl, ?_⟩) hHeld ?_
  rotate_left
  · intro wq hSw
    have q0 := HX3.out wq hSw
    go_simp
    all_goals with_reducible rfl
  try simp only [Act.put, List.getElem_toArray, List.getElem_cons_succ, List.getElem_cons_zero, List.setIfInBounds_toArray, List.set_cons_zero, List.set_cons_succ]
  refine wpAnyH_take (i := 8) (v := ?_) rfl (by kernel_rfl) (by kernel_rfl) (by kernel_rfl) (fun _ _ _ h => h) (Or.inl ⟨by rfl, ?_⟩) hHeld ?_
  rotate_left
  · intro wq hSw
    go_simp
    all_goals with_reducible rfl
  try simp only [Act.put, List.getElem_toArray, List.getElem_cons_succ, List.getElem_cons_zero, List.setIfInBounds_toArray, List.set_cons_zero, List.set_cons_succ]
  refine wpAnyH_take (i := 9) (v := ?_) rfl (by kernel_rfl) (by kernel_rfl) (by kernel_rfl) (fun _ _ _ h => h) (Or.inl ⟨by rfl, ?_⟩) hHeld ?_
  rotate_left
  · intro wq hSw
    go_simp
    all_goals with_reducible rfl
  try simp only [Act.put, List.getElem_toArray, List.getElem_cons_succ, List.getElem_cons_zero, List.setIfInBounds_toArray, List.set_cons_zero, List.set_cons_succ]
  refine wpAnyH_take (i := 10) (v := ?_) rfl (by kernel_rfl) (by kernel_rfl) (by kernel_rfl) (fun _ _ _ h => h) (Or.inl ⟨by rfl, ?_⟩) hHeld ?_
  rotate_left
  · intro wq hSw
    go_simp
    all_goals with_reducible rfl
  try simp only [Act.put, List.getElem_toArray, List.getElem_cons_succ, List.getElem_cons_zero, List.setIfInBounds_toArray, List.set_cons_zero, List.set_cons_succ]
  refine wpAnyH_take (i := 11) (v := ?_) rfl (by kernel_rfl) (by kernel_rfl) (by kernel_rfl) (fun _ _ _ h => h) (Or.inl ⟨by rfl, ?_⟩) hHeld ?_
  rotate_left
  · intro wq hSw
    have q0 := HX0.out wq hSw
    go_simp
    all_goals with_reducible rfl
  try simp only [Act.put, List.getElem_toArray, List.getElem_cons_succ, List.getElem_cons_zero, List.setIfInBounds_toArray, List.set_cons_zero, List.set_cons_succ]
  refine wpAnyH_take (i := 12) (v := ?_) rfl (by kernel_rfl) (by kernel_rfl) (by kernel_rfl) (fun _ _ _ h => h) (Or.inl ⟨by rfl, ?_⟩) hHeld ?_
  rotate_left
  · intro wq hSw
    go_simp
    all_goals with_reducible rfl
  try simp only [Act.put, List.getElem_toArray, List.getElem_cons_succ, List.getElem_cons_zero, List.setIfInBounds_toArray, List.set_cons_zero, List.set_cons_succ]
  refine wpAnyH_take (i := 13) (v := ?_) rfl (by kernel_rfl) (by kernel_rfl) (by kernel_rfl) (fun _ _ _ h => h) (Or.inl ⟨by rfl, ?_⟩) hHeld ?_
  rotate_left
  · intro wq hSw
    go_simp
    all_goals with_reducible rfl
  try simp only [Act.put, List.getElem_toArray, List.getElem_cons_succ, List.getElem_cons_zero, List.setIfInBounds_toArray, List.set_cons_zero, List.set_cons_succ]
  refine wpAnyH_take (i := 14) (v := ?_) rfl (by kernel_rfl) (by kernel_rfl) (by kernel_rfl) (fun _ _ _ h => h) (Or.inl ⟨by rfl, ?_⟩) hHeld ?_
  rotate_left
  · intro wq hSw
    go_simp
    all_goals with_reducible rfl
  try simp only [Act.put, List.getElem_toArray, List.getElem_cons_succ, List.getElem_cons_zero, List.setIfInBounds_toArray, List.set_cons_zero, List.set_cons_succ]
  refine wpAnyH_take (i := 15) (v := ?_) rfl (by kernel_rfl) (by kernel_rfl) (by kernel_rfl) (fun _ _ _ h => h) (Or.inl ⟨by rfl, ?_⟩) hHeld ?_
  rotate_left
  · intro wq hSw
    have q0 := HX1.out wq hSw
    go_simp
    all_goals with_reducible rfl
  try simp only [Act.put, List.getElem_toArray, List.getElem_cons_succ, List.getElem_cons_zero, List.setIfInBounds_toArray, List.set_cons_zero, List.set_cons_succ]
  refine wpAnyH_ready (rs := [16]) (by kernel_rfl) (by simp) ?_
  refine AllReadyH.cons rfl (fun K hK => ?_) AllReadyH.nil
  go_simp
  refine (HC.out _ hHeld).mono ?_
  rintro e w2 ⟨A, n, c, A4, n4, c4, rfl, q1, q2, q3⟩
  have HQ : Hid ((∃ rs, RowsIn w2 (fun b => w.heap.size ≤ b ∧ b < w2.heap.size) A n rs ∧ n ≤ c ∧ rowsXs rs = M) ∧ Own w2 w.heap.size 5 A4 n4 c4 O ∧ Keep w w2) := by
    have hs := Keep.size hHeld
    obtain ⟨rs, r1, r2, r3⟩ := q1
    exact ⟨⟨rs, r1.mono fun x hx => ⟨by omega, hx.2⟩, r2, r3⟩, q2.lower hs, Keep.trans hHeld q3⟩
  have hh : Keep w w2 := Keep.trans hHeld q3
  clear q1 q2 q3
  refine hK.out _ _ hh (fun hHeld => ?_)
  clear hK K
  try simp only [Act.put, List.getElem_toArray, List.getElem_cons_succ, List.getElem_cons_zero, List.setIfInBounds_toArray, List.set_cons_zero, List.set_cons_succ]
  refine wpAnyH_take (i := 17) (v := ?_) rfl (by kernel_rfl) (by kernel_rfl) (by kernel_rfl) (fun _ _ _ h => h) (Or.inl ⟨by rfl, ?_⟩) hHeld ?_
  rotate_left
  · intro wq hSw
    go_simp
    all_goals with_reducible rfl
  try simp only [Act.put, List.getElem_toArray, List.getElem_cons_succ, List.getElem_cons_zero, List.setIfInBounds_toArray, List.set_cons_zero, List.set_cons_succ]
  refine wpAnyH_take (i := 18) (v := ?_) rfl (by kernel_rfl) (by kernel_rfl) (by kernel_rfl) (fun _ _ _ h => h) (Or.inl ⟨by rfl, ?_⟩) hHeld ?_
  rotate_left
  · intro wq hSw
    go_simp
    all_goals with_reducible rfl
  try simp only [Act.put, List.getElem_toArray, List.getElem_cons_succ, List.getElem_cons_zero, List.setIfInBounds_toArray, List.set_cons_zero, List.set_cons_succ]
  refine wpAnyH_take (i := 19) (v := ?_) rfl (by kernel_rfl) (by kernel_rfl) (by kernel_rfl) (fun _ _ _ h => h) (Or.inl ⟨by rfl, ?_⟩) hHeld ?_
  rotate_left
  · intro wq hSw
    go_simp
    all_goals with_reducible rfl
  try simp only [Act.put, List.getElem_toArray, List.getElem_cons_succ, List.getElem_cons_zero, List.setIfInBounds_toArray, List.set_cons_zero, List.set_cons_succ]
  refine wpAnyH_take (i := 20) (v := ?_) rfl (by kernel_rfl) (by kernel_rfl) (by kernel_rfl) (fun _ _ _ h => h) (Or.inl ⟨by rfl, ?_⟩) hHeld ?_
  rotate_left
  · intro wq hSw
    go_simp
    all_goals with_reducible rfl
  try simp only [Act.put, List.getElem_toArray, List.getElem_cons_succ, List.getElem_cons_zero, List.setIfInBounds_toArray, List.set_cons_zero, List.set_cons_succ]
  refine wpAnyH_take (i := 21) (v := ?_) rfl (by kernel_rfl) (by kernel_rfl) (by kernel_rfl) (fun _ _ _ h => h) (Or.inl ⟨by rfl, ?_⟩) hHeld ?_
  rotate_left
  · intro wq hSw
    go_simp
    all_goals with_reducible rfl
  try simp only [Act.put, List.getElem_toArray, List.getElem_cons_succ, List.getElem_cons_zero, List.setIfInBounds_toArray, List.set_cons_zero, List.set_cons_succ]
  refine wpAnyH_take (i := 22) (v := ?_) rfl (by kernel_rfl) (by kernel_rfl) (by kernel_rfl) (fun _ _ _ h => h) (Or.inl ⟨by rfl, ?_⟩) hHeld ?_
  rotate_left
  · intro wq hSw
    go_simp
    all_goals with_reducible rfl
  try simp only [Act.put, List.getElem_toArray, List.getElem_cons_succ, List.getElem_cons_zero, List.setIfInBounds_toArray, List.set_cons_zero, List.set_cons_succ]
  refine wpAnyH_take (i := 23) (v := ?_) rfl (by kernel_rfl) (by kernel_rfl) (by kernel_rfl) (fun _ _ _ h => h) (Or.inl ⟨by rfl, ?_⟩) hHeld ?_
  rotate_left
  · intro wq hSw
    go_simp
    all_goals with_reducible rfl
  try simp only [Act.put, List.getElem_toArray, List.getElem_cons_succ, List.getElem_cons_zero, List.setIfInBounds_toArray, List.set_cons_zero, List.set_cons_succ]
  refine wpAnyH_done (by kernel_rfl) ?_ _
  refine NoPanic.normal ?_
  clear hHeld
  clear HC HX0 HX1 HX2 HX3
  go_wp2_with fail
  go_ret2
  exact ⟨A, n, c, A4, n4, c4, rfl, HQ.out⟩
set_option maxHeartbeats 1000000 in
theorem rgens_any {P : Nat} {M : List (List Nat)} (h : RefR w E b g s xs cs cl) (hG : GoodS g s P xs cs M) (hl : xs.length ≤ 100000) (hc : cs.length ≤ 1000000) :
    Calls Try.prog 29 #[.pointer (some ⟨b, 0, none⟩)] w fun e w' => e = .returned (.int .u64 (M.length : Int)) ∧ Keep w w' := by
  have HC := Lib.hid (rchunks_any h hG.size hG.le hG.up hl (by omega))
  rw [← hG.gens] at HC
  have hfew := hG.few
  obtain ⟨k, hk⟩ : ∃ k, M.length = k := ⟨_, rfl⟩
  have HK := Lib.hid hk
  rw [hk] at hfew ⊢
  have q : IntKind.u64.wrap (k : Int) = (k : Int) := IntWalk.u64_in _ (by omega)
  clear h hG hk
  go_enter Try.func29, Try.ntmps29
  go_wp2_with fail
  refine HC.out.mono ?_
  rintro e w1 ⟨A, n, c, A', n', c', rfl, ⟨rs, r1, r2, r3⟩, q2, q3⟩
  obtain rfl : n = k := by rw [← HK.out, ← r3, rowsXs, List.length_map]; exact r1.1.symm
  have K1 := Lib.hid q3
  clear r1 r2 r3 q2 q3 HC
  go_wp2_with fail
  go_ret
  exact ⟨rfl, K1.out⟩
end
end Go.Proofs.Ytcafofffgmaepaa
/- The document's own source: Submit, Flush, Close. -/
namespace Go.Proofs.Ytcafofffgmaepaa
open Go.RowKit
set_option linter.unusedVariables false
set_option linter.unusedSimpArgs false
section
variable {w w' : World} {E G : Nat → Prop} {b g s : Nat} {xs cs ys : List Nat} {cl : Bool} {M : List (List Nat)}
def RWrote (E : Nat → Prop) (w : World) (b g s : Nat) (xs cs : List Nat) (cl : Bool) (w' : World) : Prop :=
  ∃ E', RefR w' E' b g s xs cs cl ∧ Turned (fun i => i = b) w w' ∧ ∀ i, E' i → E i ∨ w.heap.size ≤ i
theorem RefR.wrote (h : RefR w E b g s xs cs cl) (k : Keep w w') : RWrote E w b g s xs cs cl w' := ⟨E, h.keep k, Turned.of_keep k, fun i hi => Or.inl hi⟩
set_option maxHeartbeats 1000000 in
theorem rsubmit_closed (h : RefR w E b g s xs cs true) (n5 c5 : Nat) (A5 : Option Addr) (most : Nat) :
    Calls Try.prog 15 #[.pointer (some ⟨b, 0, none⟩), .slice A5 n5 c5, .int .u64 (most : Int)] w fun e w' => e = .returned (.int .i64 27) ∧ Keep w w' := by
  obtain ⟨A1, n1, c1, A2, n2, c2, h⟩ := h
  have x4 := h.x4
  clear h
  go_enter Try.func15, Try.ntmps15
  go_wp2_with fail
  go_ret
  exact ⟨rfl, Keep.refl w⟩
set_option maxRecDepth 100000 in
set_option maxHeartbeats 8000000 in
theorem rsubmit_open {P : Nat} (h : RefR w E b g s xs cs false) (hG : GoodS g s P xs cs M) (hcs : cs.length ≤ 1000000) (B5 n5 c5 : Nat) (A5 : Option Addr) (most : Nat) (hb : Bytes w B5 A5 n5 ys) (hB : B5 ≤ w.heap.size) (hl : xs.length + n5 ≤ 100000) :
    Calls Try.prog 15 #[.pointer (some ⟨b, 0, none⟩), .slice A5 n5 c5, .int .u64 (most : Int)] w fun e w' => (most < wouldN (P - 4) cs (xs ++ ys) → e = .returned (.int .i64 7) ∧ Keep w w') ∧ (¬ most < wouldN (P - 4) cs (xs ++ ys) → e = .returned (.int .i64 0) ∧ RWrote E w b g s (xs ++ ys) cs false w') := by
  obtain ⟨A1, n1, c1, A2, n2, c2, h⟩ := h
  have en1 := h.n1eq
  have x2 := h.x2
  have x4 := h.x4
  have hyl := hb.length
  have HX0 : Hid (∀ wq, Keep w wq → wq.cell? ⟨b, 0, none⟩ = some (.int .i64 (g : Int))) := fun wq k => (h.keep k).x0
  have HX1 : Hid (∀ wq, Keep w wq → wq.cell? ⟨b, 1, none⟩ = some (.int .i64 (s : Int))) := fun wq k => (h.keep k).x1
  have HX2 : Hid (∀ wq, Keep w wq → wq.cell? ⟨b, 2, none⟩ = some (.slice A1 n1 c1)) := fun wq k => (h.keep k).x2
  have HX3 : Hid (∀ wq, Keep w wq → wq.cell? ⟨b, 3, none⟩ = some (.slice A2 n2 c2)) := fun wq k => (h.keep k).x3
  have HA := Lib.hid h
  have HG := Lib.hid hG
  have HBY := Lib.hid hb
  have HBB := Lib.hid hB
  have HL := Lib.hid hl
  have HCS := Lib.hid hcs
  have EN1 := Lib.hid en1
  have HYL := Lib.hid hyl
  have d1 : (n1 : Int) + (n5 : Int) = ((n1 + n5 : Nat) : Int) := by omega
  have d2 : IntKind.i64.wrap ((n1 : Int) + (n5 : Int)) = ((n1 + n5 : Nat) : Int) := by rw [d1]; exact IntWalk.i64_in _ (by omega)
  have d3 : ¬ (262144 : Int) < ((n1 + n5 : Nat) : Int) := by omega
  clear d1
  obtain ⟨nn, hnn⟩ : ∃ nn, n1 + n5 = nn := ⟨_, rfl⟩
  rw [hnn] at d2 d3
  have HNN := Lib.hid hnn
  obtain ⟨W, hW⟩ : ∃ W, wouldN (P - 4) cs (xs ++ ys) = W := ⟨_, rfl⟩
  rw [hW]
  have HW := Lib.hid hW
  clear h hG hb hB hcs en1 hyl hnn hl hW
  go_enter Try.func15, Try.ntmps15
  go_wp2_with fail
  refine wp_region_noPanic ?_
  refine wp_region_held_drew (S := fun wz => Keep w wz) (by kernel_rfl) (Keep.drew (Keep.refl w)) (fun hHeld => ?_)
  refine wpAnyH_take (i := 0) (v := ?_) rfl (by kernel_rfl) (by kernel_rfl) (by kernel_rfl) (fun _ _ _ h => h) (Or.inl ⟨by rfl, ?_⟩) hHeld ?_
  rotate_left
  · intro wq hSw
    go_simp
    all_goals with_reducible rfl
  try simp only [Act.put, List.getElem_toArray, List.getElem_cons_succ, List.getElem_cons_zero, List.setIfInBounds_toArray, List.set_cons_zero, List.set_cons_succ]
  refine wpAnyH_take (i := 1) (v := ?_) rfl (by kernel_rfl) (by kernel_rfl) (by kernel_rfl) (fun _ _ _ h => h) (Or.inl ⟨by rfl, ?_⟩) hHeld ?_
  rotate_left
  · intro wq hSw
    go_simp
    all_goals with_reducible rfl
  try simp only [Act.put, List.getElem_toArray, List.getElem_cons_succ, List.getElem_cons_zero, List.setIfInBounds_toArray, List.set_cons_zero, List.set_cons_succ]
  refine wpAnyH_take (i := 2) (v := ?_) rfl (by kernel_rfl) (by kernel_rfl) (by kernel_rfl) (fun _ _ _ h => h) (Or.inl ⟨by rfl, ?_⟩) hHeld ?_
  rotate_left
  · intro wq hSw
    go_simp
    all_goals with_reducible rfl
  try simp only [Act.put, List.getElem_toArray, List.getElem_cons_succ, List.getElem_cons_zero, List.setIfInBounds_toArray, List.set_cons_zero, List.set_cons_succ]
  refine wpAnyH_take (i := 3) (v := ?_) rfl (by kernel_rfl) (by kernel_rfl) (by kernel_rfl) (fun _ _ _ h => h) (Or.inl ⟨by rfl, ?_⟩) hHeld ?_
  rotate_left
  · intro wq hSw
    have q0 := HX0.out wq hSw
    go_simp
    all_goals with_reducible rfl
  try simp only [Act.put, List.getElem_toArray, List.getElem_cons_succ, List.getElem_cons_zero, List.setIfInBounds_toArray, List.set_cons_zero, List.set_cons_succ]
  refine wpAnyH_take (i := 4) (v := ?_) rfl (by kernel_rfl) (by kernel_rfl) (by kernel_rfl) (fun _ _ _ h => h) (Or.inl ⟨by rfl, ?_⟩) hHeld ?_
  rotate_left
  · intro wq hSw
    go_simp
    all_goals with_reducible rfl
  try simp only [Act.put, List.getElem_toArray, List.getElem_cons_succ, List.getElem_cons_zero, List.setIfInBounds_toArray, List.set_cons_zero, List.set_cons_succ]
  refine wpAnyH_take (i := 5) (v := ?_) rfl (by kernel_rfl) (by kernel_rfl) (by kernel_rfl) (fun _ _ _ h => h) (Or.inl ⟨by rfl, ?_⟩) hHeld ?_
  rotate_left
  · intro wq hSw
    go_simp
    all_goals with_reducible rfl
  try simp only [Act.put, List.getElem_toArray, List.getElem_cons_succ, List.getElem_cons_zero, List.setIfInBounds_toArray, List.set_cons_zero, List.set_cons_succ]
  refine wpAnyH_take (i := 6) (v := ?_) rfl (by kernel_rfl) (by kernel_rfl) (by kernel_rfl) (fun _ _ _ h => h) (Or.inl ⟨by rfl, ?_⟩) hHeld ?_
  rotate_left
  · intro wq hSw
    go_simp
    all_goals with_reducible rfl
  try simp only [Act.put, List.getElem_toArray, List.getElem_cons_succ, List.getElem_cons_zero, List.setIfInBounds_toArray, List.set_cons_zero, List.set_cons_succ]
  refine wpAnyH_take (i := 7) (v := ?_) rfl (by kernel_rfl) (by kernel_rfl) (by kernel_rfl) (fun _ _ _ h => h) (Or.inl ⟨by rfl, ?_⟩) hHeld ?_
  rotate_left
  · intro wq hSw
    have q0 := HX1.out wq hSw
    go_simp
    all_goals with_reducible rfl
  try simp only [Act.put, List.getElem_toArray, List.getElem_cons_succ, List.getElem_cons_zero, List.setIfInBounds_toArray, List.set_cons_zero, List.set_cons_succ]
  refine wpAnyH_take (i := 8) (v := ?_) rfl (by kernel_rfl) (by kernel_rfl) (by kernel_rfl) (fun _ _ _ h => h) (Or.inl ⟨by rfl, ?_⟩) hHeld ?_
  rotate_left
  · intro wq hSw
    go_simp
    all_goals with_reducible rfl
  try simp only [Act.put, List.getElem_toArray, List.getElem_cons_succ, List.getElem_cons_zero, List.setIfInBounds_toArray, List.set_cons_zero, List.set_cons_succ]
  refine wpAnyH_take (i := 9) (v := ?_) rfl (by kernel_rfl) (by kernel_rfl) (by kernel_rfl) (fun _ _ _ h => h) (Or.inl ⟨by rfl, ?_⟩) hHeld ?_
  rotate_left
  · intro wq hSw
    go_simp
    all_goals with_reducible rfl
  try simp only [Act.put, List.getElem_toArray, List.getElem_cons_succ, List.getElem_cons_zero, List.setIfInBounds_toArray, List.set_cons_zero, List.set_cons_succ]
  refine wpAnyH_take (i := 10) (v := ?_) rfl (by kernel_rfl) (by kernel_rfl) (by kernel_rfl) (fun _ _ _ h => h) (Or.inl ⟨by rfl, ?_⟩) hHeld ?_
  rotate_left
  · intro wq hSw
    go_simp
    all_goals with_reducible rfl
  try simp only [Act.put, List.getElem_toArray, List.getElem_cons_succ, List.getElem_cons_zero, List.setIfInBounds_toArray, List.set_cons_zero, List.set_cons_succ]
  refine wpAnyH_take (i := 11) (v := ?_) rfl (by kernel_rfl) (by kernel_rfl) (by kernel_rfl) (fun _ _ _ h => h) (Or.inl ⟨by rfl, ?_⟩) hHeld ?_
  rotate_left
  · intro wq hSw
    have q0 := HX2.out wq hSw
    go_simp
    all_goals with_reducible rfl
  try simp only [Act.put, List.getElem_toArray, List.getElem_cons_succ, List.getElem_cons_zero, List.setIfInBounds_toArray, List.set_cons_zero, List.set_cons_succ]
  refine wpAnyH_take (i := 13) (v := ?_) rfl (by kernel_rfl) (by kernel_rfl) (by kernel_rfl) (fun _ _ _ h => h) (Or.inl ⟨by rfl, ?_⟩) hHeld ?_
  rotate_left
  · intro wq hSw
    go_simp
    all_goals with_reducible rfl
  try simp only [Act.put, List.getElem_toArray, List.getElem_cons_succ, List.getElem_cons_zero, List.setIfInBounds_toArray, List.set_cons_zero, List.set_cons_succ]
  refine wpAnyH_take (i := 15) (v := ?_) rfl (by kernel_rfl) (by kernel_rfl) (by kernel_rfl) (fun _ _ _ h => h) (Or.inl ⟨by rfl, ?_⟩) hHeld ?_
  rotate_left
  · intro wq hSw
    go_simp
    all_goals with_reducible rfl
  try simp only [Act.put, List.getElem_toArray, List.getElem_cons_succ, List.getElem_cons_zero, List.setIfInBounds_toArray, List.set_cons_zero, List.set_cons_succ]
  refine wpAnyH_take (i := 16) (v := ?_) rfl (by kernel_rfl) (by kernel_rfl) (by kernel_rfl) (fun _ _ _ h => h) (Or.inl ⟨by rfl, ?_⟩) hHeld ?_
  rotate_left
  · intro wq hSw
    go_simp
    all_goals with_reducible rfl
  try simp only [Act.put, List.getElem_toArray, List.getElem_cons_succ, List.getElem_cons_zero, List.setIfInBounds_toArray, List.set_cons_zero, List.set_cons_succ]
  refine wpAnyH_take (i := 17) (v := ?_) rfl (by kernel_rfl) (by kernel_rfl) (by kernel_rfl) (fun _ _ _ h => h) (Or.inl ⟨by rfl, ?_⟩) hHeld ?_
  rotate_left
  · intro wq hSw
    go_simp
    all_goals with_reducible rfl
  try simp only [Act.put, List.getElem_toArray, List.getElem_cons_succ, List.getElem_cons_zero, List.setIfInBounds_toArray, List.set_cons_zero, List.set_cons_succ]
  refine wpAnyH_take (i := 18) (v := ?_) rfl (by kernel_rfl) (by kernel_rfl) (by kernel_rfl) (fun _ _ _ h => h) (Or.inl ⟨by rfl, ?_⟩) hHeld ?_
  rotate_left
  · intro wq hSw
    have q0 := HX3.out wq hSw
    go_simp
    all_goals with_reducible rfl
  try simp only [Act.put, List.getElem_toArray, List.getElem_cons_succ, List.getElem_cons_zero, List.setIfInBounds_toArray, List.set_cons_zero, List.set_cons_succ]
  refine wpAnyH_ready (rs := [12]) (by kernel_rfl) (by simp) ?_
  refine AllReadyH.cons rfl (fun K hK => ?_) AllReadyH.nil
  go_simp
  refine (rown_any _ n1 c1 A1 xs _ (HA.out.keep hHeld).bytes (by have := HL.out; have := EN1.out; omega)).mono ?_
  rintro e w3 ⟨A6, n6, c6, rfl, o6, k6⟩
  obtain rfl : n1 = n6 := by have := o6.length; have := EN1.out; omega
  have O6 := Lib.hid o6
  have kk6 : Keep w w3 := Keep.trans hHeld k6
  have hs6 : w.heap.size ≤ w.drew.heap.size := Nat.le_refl _
  have O6 : Hid (Own w3 w.heap.size 5 A6 n1 c6 xs) := o6.lower (Keep.size hHeld)
  clear o6 hs6
  refine hK.out _ _ kk6 (fun hHeld => ?_)
  clear hK K
  try simp only [Act.put, List.getElem_toArray, List.getElem_cons_succ, List.getElem_cons_zero, List.setIfInBounds_toArray, List.set_cons_zero, List.set_cons_succ]
  refine wpAnyH_ready (rs := [14]) (by kernel_rfl) (by simp) ?_
  refine AllReadyH.cons rfl (fun K hK => ?_) AllReadyH.nil
  refine wp_append_bytes _ _ 22 rfl Try.underlying22 info5 rfl O6.out rfl (HBY.out.keep HBB.out kk6) (by have := HL.out; have := EN1.out; omega) kk6.size ?_
  intro A7 c7 w4 h7 g7 r7
  have kk7 : Keep w w4 := Keep.grown kk6 g7 fun k hk => (O6.out.blt k hk).1
  have O7 := Lib.hid h7
  refine hK.out _ _ kk7 (fun hHeld => ?_)
  clear hK K h7 g7 r7 O6 kk6
  try simp only [Act.put, List.getElem_toArray, List.getElem_cons_succ, List.getElem_cons_zero, List.setIfInBounds_toArray, List.set_cons_zero, List.set_cons_succ]
  refine wpAnyH_take (i := 19) (v := ?_) rfl (by kernel_rfl) (by kernel_rfl) (by kernel_rfl) (fun _ _ _ h => h) (Or.inl ⟨by rfl, ?_⟩) hHeld ?_
  rotate_left
  · intro wq hSw
    go_simp
    all_goals with_reducible rfl
  try simp only [Act.put, List.getElem_toArray, List.getElem_cons_succ, List.getElem_cons_zero, List.setIfInBounds_toArray, List.set_cons_zero, List.set_cons_succ]
  obtain ⟨w5, hw5⟩ : ∃ w5, w4.alloc (.cells #[.int .i64 (g : Int), .int .i64 (s : Int), .slice A7 (n1 + n5) c7, .slice A2 n2 c2, .bool false] 66) = w5 := ⟨_, rfl⟩
  obtain ⟨N, hN⟩ : ∃ N, w4.heap.size = N := ⟨_, rfl⟩
  have kk8 : Keep w w5 := Keep.trans kk7 (by rw [← hw5]; exact (Keep.refl w4).alloc _ _)
  refine wpAnyH_ready (rs := [20]) (by kernel_rfl) (by simp) ?_
  refine AllReadyH.cons rfl (fun K hK => ?_) AllReadyH.nil
  go_simp
  try rw [hw5]
  try rw [hN]
  refine hK.out _ _ kk8 (fun hHeld => ?_)
  clear hK K
  try simp only [Act.put, List.getElem_toArray, List.getElem_cons_succ, List.getElem_cons_zero, List.setIfInBounds_toArray, List.set_cons_zero, List.set_cons_succ]
  refine wpAnyH_take (i := 21) (v := ?_) rfl (by kernel_rfl) (by kernel_rfl) (by kernel_rfl) (fun _ _ _ h => h) (Or.inl ⟨by rfl, ?_⟩) hHeld ?_
  rotate_left
  · intro wq hSw
    go_simp
    all_goals with_reducible rfl
  try simp only [Act.put, List.getElem_toArray, List.getElem_cons_succ, List.getElem_cons_zero, List.setIfInBounds_toArray, List.set_cons_zero, List.set_cons_succ]
  refine wpAnyH_done (by kernel_rfl) ?_ _
  refine NoPanic.normal ?_
  clear hHeld
  have K5 := Lib.hid kk8
  have k45 : Keep w4 w5 := by rw [← hw5]; exact (Keep.refl w4).alloc _ _
  have hzs : w.heap.size ≤ N ∧ w5.heap.size = N + 1 := by rw [← hN, ← hw5]; exact ⟨kk7.size, by simp⟩
  have RN : Hid (RefA w5 (fun k => (Value.slice A7 (n1 + n5) c7).ownBlock = some k ∨ (E k ∧ k ≠ b) ∨ k = N) N g s A7 (n1 + n5) c7 A2 n2 c2 (xs ++ ys) cs false) := by
    refine ⟨?_, (O7.out.keep k45).lies.mono fun k e => ⟨Or.inl e, ?_⟩, ((HA.out.keep kk8).cu).mono fun k e => ⟨Or.inr (Or.inl e), ?_⟩, Or.inr (Or.inr rfl), fun k e => ?_⟩
    · rw [← hw5, ← hN]; exact heap_alloc_new w4 _
    · have := (O7.out.blt k e).2; omega
    · have := HA.out.lt k e.1; omega
    · rcases e with e | e | e
      · have := (O7.out.blt k e).2; omega
      · have := HA.out.lt k e.1; omega
      · omega
  have O7' := Lib.hid (O7.out.keep k45)
  have BL : Hid (b < w.heap.size) := HA.out.lt b HA.out.e0
  have HZ := Lib.hid hzs
  clear hw5 k45 kk7 kk8 hHeld O7 hN hzs HX0 HX1 HX2 HX3
  go_wp2_with fail
  have hGm : GoodS g s P (xs ++ ys) cs (gensN (P - 4) cs (xs ++ ys)) := HG.out.more ys (by have := HL.out; have := HYL.out; omega)
  have HC := Lib.hid (rchunks_any (⟨_, _, _, _, _, _, RN.out⟩ : RefR w5 _ N g s (xs ++ ys) cs false) hGm.size hGm.le hGm.up (by rw [List.length_append]; have := HL.out; have := HYL.out; omega) (by have := HCS.out; omega))
  have hfew := hGm.few
  have hWd : W = (gensN (P - 4) cs (xs ++ ys)).length + (if openN (P - 4) cs (xs ++ ys) = [] then 0 else 1) := by rw [← HW.out]; rfl
  generalize gensN (P - 4) cs (xs ++ ys) = M' at *
  generalize openN (P - 4) cs (xs ++ ys) = O' at *
  have HFEW := Lib.hid hfew
  have HWD := Lib.hid hWd
  clear hfew hWd hGm HW
  refine HC.out.mono ?_
  rintro e w6 ⟨A8, n8, c8, A9, n9, c9, rfl, ⟨rs, r1, r2, r3⟩, q2, q3⟩
  have hn8 : n8 = M'.length := by rw [← r3, rowsXs, List.length_map]; exact r1.1.symm
  have hn9 : O'.length = n9 := q2.length
  have K6 := Lib.hid q3
  have u1 : IntKind.u64.wrap (n8 : Int) = (n8 : Int) := IntWalk.u64_in _ (by have := HFEW.out; omega)
  have u2 : IntKind.u64.wrap ((n8 : Int) + 1) = ((n8 + 1 : Nat) : Int) := by rw [show (n8 : Int) + 1 = ((n8 + 1 : Nat) : Int) by omega]; exact IntWalk.u64_in _ (by have := HFEW.out; omega)
  have hn8b : n8 ≤ 262144 := by have := HFEW.out; omega
  have W8 : Hid (W = n8 + (if n9 = 0 then 0 else 1)) := by
    show W = _
    rw [HWD.out, hn8, ← hn9]
    congr 1
    by_cases h0 : O' = []
    · rw [if_pos h0, h0]; rfl
    · rw [if_neg h0, if_neg fun e => h0 (List.eq_nil_of_length_eq_zero e)]
  have RB : Hid (RefA w6 E b g s A1 n1 c1 A2 n2 c2 xs cs false) := HA.out.keep (K5.out.trans q3)
  have RN6 := Lib.hid (RN.out.keep q3)
  have O9 := Lib.hid (O7'.out.keep q3)
  have K06 : Hid (Keep w w6) := K5.out.trans q3
  have y2 := RB.out.x2
  have f2 := RB.out.free 2
  have z2 := RN6.out.x2
  obtain ⟨p1, p2⟩ := RB.out.put2 O9.out.lies (fun k e => ⟨by have := (O9.out.blt k e).1; have := BL.out; omega, (O9.out.blt k e).2⟩)
  have PW : Hid (RWrote E w b g s (xs ++ ys) cs false (w6.setCell ⟨b, 2, none⟩ (.slice A7 (n1 + n5) c7))) :=
    ⟨_, ⟨_, _, _, _, _, _, p1⟩, (Turned.of_keep K06.out).trans p2 fun i e => Or.inl e, fun i e => e.imp id fun e => (O9.out.blt i e).1⟩
  clear r1 r2 r3 q2 q3 hn8 hn9 p1 p2 RN RN6 O9 O7' RB HC
  by_cases h9 : n9 = 0
  · subst h9
    have hW8 : W = n8 := by have := W8.out; rw [if_pos rfl] at this; exact this
    subst hW8
    by_cases hlt : most < W
    · have d5 : (most : Int) < (W : Int) := by omega
      have HLT := Lib.hid hlt
      clear hlt
      go_wp2_with fail
      go_ret
      exact ⟨fun _ => ⟨rfl, K06.out⟩, fun e => absurd HLT.out e⟩
    · have d5 : ¬ (most : Int) < (W : Int) := by omega
      have HLT := Lib.hid hlt
      clear hlt
      go_wp2_with fail
      go_ret
      exact ⟨fun e => absurd e HLT.out, fun _ => ⟨rfl, PW.out⟩⟩
  · have hW8 : W = n8 + 1 := by have := W8.out; rw [if_neg h9] at this; exact this
    have d6 : (0 : Int) < (n9 : Int) := by omega
    by_cases hlt : most < W
    · have d5 : (most : Int) < ((n8 + 1 : Nat) : Int) := by omega
      have HLT := Lib.hid hlt
      obtain ⟨v, hv⟩ : ∃ v, n8 + 1 = v := ⟨_, rfl⟩
      rw [hv] at u2 d5
      clear hlt hW8 hv
      go_wp2_with fail
      go_ret
      exact ⟨fun _ => ⟨rfl, K06.out⟩, fun e => absurd HLT.out e⟩
    · have d5 : ¬ (most : Int) < ((n8 + 1 : Nat) : Int) := by omega
      have HLT := Lib.hid hlt
      obtain ⟨v, hv⟩ : ∃ v, n8 + 1 = v := ⟨_, rfl⟩
      rw [hv] at u2 d5
      clear hlt hW8 hv
      go_wp2_with fail
      go_ret
      exact ⟨fun e => absurd e HLT.out, fun _ => ⟨rfl, PW.out⟩⟩
theorem rsubmit_any {P : Nat} (h : RefR w E b g s xs cs cl) (hG : GoodS g s P xs cs M) (hcs : cs.length ≤ 1000000) (B5 n5 c5 : Nat) (A5 : Option Addr) (most : Nat) (hb : Bytes w B5 A5 n5 ys) (hB : B5 ≤ w.heap.size) (hl : xs.length + n5 ≤ 100000) :
    Calls Try.prog 15 #[.pointer (some ⟨b, 0, none⟩), .slice A5 n5 c5, .int .u64 (most : Int)] w fun e w' => e = .returned (.int .i64 (subE P cl xs cs ys most)) ∧ RWrote E w b g s (subX P cl xs cs ys most) cs cl w' := by
  cases cl with
  | true =>
    have e1 : subE P true xs cs ys most = 27 := rfl
    rw [subX, e1, if_neg (by decide)]
    exact (rsubmit_closed h n5 c5 A5 most).mono fun e w' he => ⟨he.1, h.wrote he.2⟩
  | false =>
    have hyl := hb.length
    by_cases hlt : most < wouldN (P - 4) cs (xs ++ ys)
    · have e1 : subE P false xs cs ys most = 7 := by rw [subE, if_neg (by simp), if_pos (Or.inr hlt)]
      rw [subX, e1, if_neg (by decide)]
      exact (rsubmit_open h hG hcs B5 n5 c5 A5 most hb hB hl).mono fun e w' he => ⟨(he.1 hlt).1, h.wrote (he.1 hlt).2⟩
    · have e1 : subE P false xs cs ys most = 0 := by rw [subE, if_neg (by simp), if_neg]; rintro (e | e) <;> omega
      rw [subX, e1, if_pos rfl]
      exact (rsubmit_open h hG hcs B5 n5 c5 A5 most hb hB hl).mono fun e w' he => he.2 hlt
set_option maxHeartbeats 1000000 in
theorem rflush_closed (h : RefR w E b g s xs cs true) :
    Calls Try.prog 17 #[.pointer (some ⟨b, 0, none⟩)] w fun e w' => e = .returned (.int .i64 27) ∧ Keep w w' := by
  obtain ⟨A1, n1, c1, A2, n2, c2, h⟩ := h
  have x4 := h.x4
  clear h
  go_enter Try.func17, Try.ntmps17
  go_wp2_with fail
  go_ret
  exact ⟨rfl, Keep.refl w⟩
set_option maxRecDepth 100000 in
set_option maxHeartbeats 4000000 in
theorem rflush_open {P : Nat} (h : RefR w E b g s xs cs false) (hG : GoodS g s P xs cs M) (hcs : cs.length ≤ 900000) (hl : xs.length ≤ 100000) :
    Calls Try.prog 17 #[.pointer (some ⟨b, 0, none⟩)] w fun e w' => e = .returned (.int .i64 0) ∧ RWrote E w b g s xs (flushC P false xs cs) false w' := by
  obtain ⟨A1, n1, c1, A2, n2, c2, h⟩ := h
  have en1 := h.n1eq
  have en2 := h.n2eq
  have x2 := h.x2
  have x3 := h.x3
  have x4 := h.x4
  have HC := Lib.hid (rchunks_any (⟨_, _, _, _, _, _, h⟩ : RefR w E b g s xs cs false) hG.size hG.le hG.up hl (by omega))
  have HA := Lib.hid h
  have EN1 := Lib.hid en1
  have EN2 := Lib.hid en2
  have HCS := Lib.hid hcs
  have FC : Hid (flushC P false xs cs = if openN (P - 4) cs xs = [] then cs else cs ++ [xs.length]) := by
    show _ = _
    unfold flushC
    by_cases h0 : openN (P - 4) cs xs = [] <;> simp [h0]
  generalize flushC P false xs cs = C at *
  generalize gensN (P - 4) cs xs = N at *
  generalize openN (P - 4) cs xs = O at *
  clear h hG en1 en2 hcs hl
  go_enter Try.func17, Try.ntmps17
  go_wp2_with fail
  refine HC.out.mono ?_
  rintro e w6 ⟨A8, n8, c8, A9, n9, c9, rfl, _, q2, q3⟩
  have hn9 : O.length = n9 := q2.length
  have K6 := Lib.hid q3
  have RB := Lib.hid (HA.out.keep q3)
  clear q2 q3 HC x2 x3 x4
  by_cases h9 : n9 = 0
  · subst h9
    have hC : C = cs := by rw [FC.out, if_pos (List.eq_nil_of_length_eq_zero hn9)]
    subst hC
    clear hn9
    go_wp2_with fail
    go_ret
    exact ⟨rfl, RefR.wrote ⟨_, _, _, _, _, _, HA.out⟩ K6.out⟩
  · have hC : C = cs ++ [xs.length] := by rw [FC.out, if_neg fun e => h9 (by rw [← hn9, e]; rfl)]
    subst hC
    have d6 : (0 : Int) < (n9 : Int) := by omega
    have y2 := RB.out.x2
    have y3 := RB.out.x3
    have O0 : Hid (w6.ownsRow 0 3 1 (.slice none 0 0) 0 (natsV [])) := OwnI.none_ w6 0
    clear hn9 h9
    go_wp2_with (at_builtin; refine wpList_append_ints rfl _ _ 23 rfl Try.underlying23 infoInt rfl O0.out rfl RB.out.nats ?c1 (Nat.zero_le _) ?_)
    case c1 => have := HCS.out; have := EN2.out; omega
    intro A10 c10 w7 h10 g10 r10
    have k67 : Keep w6 w7 := Keep.grown (Keep.refl w6) g10 fun k hk => by cases hk
    have RC := Lib.hid (RB.out.keep k67)
    have O10 : Hid (OwnI w7 w6.heap.size A10 n2 c10 cs) := by
      have h10 : w7.ownsRow 0 3 1 (.slice A10 n2 c10) n2 (natsV cs) := by simpa using h10
      refine ⟨h10.1, ?_⟩
      rcases h10.2 with e | ⟨g0, cap, cur, hv, hg0, r⟩
      · exact Or.inl e
      · refine Or.inr ⟨g0, cap, cur, hv, ?_, r⟩
        rcases r10 with e | e
        · rw [hv] at e; cases e
        · rw [hv] at e
          have e : some g0 = some w6.heap.size := e
          injection e with e; omega
    have K7 : Hid (Keep w w7) := K6.out.trans k67
    have v2 := RC.out.x2
    have v3 := RC.out.x3
    obtain ⟨wl, hwl⟩ : ∃ wl, w7.alloc (.cells #[.int .i64 (n1 : Int)] 3) = wl := ⟨_, rfl⟩
    have kl : Keep w7 wl := by rw [← hwl]; exact (Keep.refl w7).alloc _ _
    have zl : wl.cell? ⟨w7.heap.size, 0, none⟩ = some (.int .i64 (n1 : Int)) := by rw [← hwl]; exact alloc_cells rfl
    have OL := Lib.hid (O10.out.keep kl)
    have RL := Lib.hid (RC.out.keep kl)
    have KL : Hid (Keep w wl) := K7.out.trans kl
    have K6L : Keep w6 wl := k67.trans kl
    have HK6L := Lib.hid K6L
    have HB6 : Hid (b < w.heap.size ∧ w.heap.size ≤ w6.heap.size ∧ w6.heap.size ≤ wl.heap.size) := ⟨HA.out.lt b HA.out.e0, K6.out.size, Nat.le_trans k67.size kl.size⟩
    clear h10 g10 r10 k67 kl y2 y3 O0 O10 K6L
    go_wp2_with (at_builtin; refine wpList_append_int rfl _ _ 23 rfl Try.underlying23 infoInt rfl OL.out rfl zl (by have := HCS.out; have := EN2.out; omega) HB6.out.2.2 ?_)
    intro A11 c11 w8 h11 g11 r11
    have k8 : Keep w6 w8 := Keep.grown HK6L.out g11 fun k hk => (OL.out.blt k hk).1
    have O11 : Hid (OwnI w8 w6.heap.size A11 (n2 + 1) c11 (cs ++ [xs.length])) := by
      show OwnI _ _ _ _ _ _
      unfold OwnI
      rw [List.map_append, EN1.out]
      exact h11
    have RD := Lib.hid (RB.out.keep k8)
    have t3 := RD.out.x3
    have f3 := RD.out.free 3
    obtain ⟨p1, p2⟩ := RD.out.put3 (NatsIn.of_own O11.out) (fun k e => ⟨by have := (O11.out.blt k e).1; have := HB6.out; omega, (O11.out.blt k e).2⟩)
    have PW : Hid (RWrote E w b g s xs (cs ++ [xs.length]) false (w8.setCell ⟨b, 3, none⟩ (.slice A11 (n2 + 1) c11))) :=
      ⟨_, ⟨_, _, _, _, _, _, p1⟩, (Turned.of_keep (K6.out.trans k8)).trans p2 fun i e => Or.inl e, fun i e => e.imp id fun e => by have := (O11.out.blt i e).1; have := HB6.out; omega⟩
    clear h11 g11 r11 p1 p2 k8
    go_wp2_with fail
    go_ret
    exact ⟨rfl, PW.out⟩
theorem rflush_any {P : Nat} (h : RefR w E b g s xs cs cl) (hG : GoodS g s P xs cs M) (hcs : cs.length ≤ 900000) (hl : xs.length ≤ 100000) :
    Calls Try.prog 17 #[.pointer (some ⟨b, 0, none⟩)] w fun e w' => e = .returned (.int .i64 (flushE cl)) ∧ RWrote E w b g s xs (flushC P cl xs cs) cl w' := by
  cases cl with
  | true =>
    rw [flushC, if_neg (by simp)]
    exact (rflush_closed h).mono fun e w' he => ⟨he.1, h.wrote he.2⟩
  | false => exact rflush_open h hG hcs hl
set_option maxHeartbeats 1000000 in
theorem rclose_any {P : Nat} (h : RefR w E b g s xs cs cl) (hG : GoodS g s P xs cs M) (hcs : cs.length ≤ 900000) (hl : xs.length ≤ 100000) :
    Calls Try.prog 19 #[.pointer (some ⟨b, 0, none⟩)] w fun e w' => e = .returned (.int .i64 (flushE cl)) ∧ RWrote E w b g s xs (flushC P cl xs cs) true w' := by
  have HF := Lib.hid (rflush_any h hG hcs hl)
  have HLT := Lib.hid (h.lt b h.at_)
  clear h hG hcs hl
  generalize flushC P cl xs cs = C at *
  cases cl with
  | true =>
    rw [show flushE true = 27 from rfl] at HF ⊢
    go_enter Try.func19, Try.ntmps19
    go_wp2_with fail
    refine HF.out.mono ?_
    rintro e w1 ⟨rfl, p1⟩
    have P1 := Lib.hid p1
    clear p1
    go_wp2_with fail
    go_ret
    exact ⟨rfl, P1.out⟩
  | false =>
    rw [show flushE false = 0 from rfl] at HF ⊢
    go_enter Try.func19, Try.ntmps19
    go_wp2_with fail
    refine HF.out.mono ?_
    rintro e w1 ⟨rfl, E1, ⟨A1, n1, c1, A2, n2, c2, h1⟩, t1, f1⟩
    have x4 := h1.x4
    have fr := h1.free 4
    obtain ⟨p1, p2⟩ := h1.put4 true
    have PW : Hid (RWrote E w b g s xs C true (w1.setCell ⟨b, 4, none⟩ (.bool true))) := ⟨E1, ⟨_, _, _, _, _, _, p1⟩, t1.trans p2 fun i e => Or.inl e, f1⟩
    clear h1 t1 f1 p1 p2 HF
    go_wp2_with fail
    go_ret
    exact ⟨rfl, PW.out⟩
end
end Go.Proofs.Ytcafofffgmaepaa
/- The document's own source: Symbols, Row, Send. -/
namespace Go.Proofs.Ytcafofffgmaepaa
open Go.RowKit
set_option linter.unusedVariables false
set_option linter.unusedSimpArgs false
section
variable {w w' : World} {E G : Nat → Prop} {b g s : Nat} {xs cs ys : List Nat} {cl : Bool} {M : List (List Nat)}
set_option maxRecDepth 100000 in
set_option maxHeartbeats 4000000 in
theorem rsyms_any {P : Nat} (h : RefR w E b g s xs cs cl) (hG : GoodS g s P xs cs M) (hcs : cs.length ≤ 1000000) (hl : xs.length ≤ 100000) (gen : Nat) (hgen : gen < 18446744073709551616) :
    Calls Try.prog 21 #[.pointer (some ⟨b, 0, none⟩), .int .u64 (gen : Int)] w (NewRows w (symL g s M gen) (symE M gen)) := by
  obtain ⟨A1, n1, c1, A2, n2, c2, h⟩ := h
  have HC := Lib.hid (rchunks_any (⟨_, _, _, _, _, _, h⟩ : RefR w E b g s xs cs cl) hG.size hG.le hG.up hl (by omega))
  rw [← hG.gens] at HC
  have HA := Lib.hid h
  have HG := Lib.hid hG
  have hfew := hG.few
  have HFEW := Lib.hid hfew
  obtain ⟨re, hre⟩ : ∃ re, symE M gen = re := ⟨_, rfl⟩
  obtain ⟨sl, hsl⟩ : ∃ sl, symL g s M gen = sl := ⟨_, rfl⟩
  rw [hre, hsl]
  have HRE := Lib.hid hre
  have HSL := Lib.hid hsl
  clear h hG hcs hl hfew hre hsl
  go_enter Try.func21, Try.ntmps21
  go_wp2_with fail
  refine HC.out.mono ?_
  rintro e w1 ⟨A8, n8, c8, A9, n9, c9, rfl, ⟨rs, r1, r2, r3⟩, q2, k1⟩
  have hn8 : n8 = M.length := by rw [← r3, rowsXs, List.length_map]; exact r1.1.symm
  have K1 := Lib.hid k1
  have R1 := Lib.hid r1
  have X1 := Lib.hid r3
  have N8 := Lib.hid hn8
  have u1 : IntKind.u64.wrap (n8 : Int) = (n8 : Int) := IntWalk.u64_in _ (by have := HFEW.out; omega)
  have hn8b : n8 ≤ 262144 := by have := HFEW.out; omega
  clear r1 r2 r3 q2 k1 hn8 HC
  by_cases hlt : M.length ≤ gen
  · obtain rfl : (23 : Int) = re := by rw [← HRE.out]; exact (if_pos hlt).symm
    obtain rfl : [] = sl := by rw [← HSL.out]; exact (if_pos hlt).symm
    have d1 : (n8 : Int) ≤ (gen : Int) := by have := N8.out; omega
    clear hlt
    go_wp2_with fail
    go_ret2
    exact ⟨none, 0, 0, rfl, [], RowsIn.nothing _ _ _, Nat.le_refl _, rfl, K1.out⟩
  · obtain rfl : (0 : Int) = re := by rw [← HRE.out]; exact (if_neg hlt).symm
    have hL : layN g s (M.getD gen []) = sl := by rw [← HSL.out]; exact (if_neg hlt).symm
    have hM : M[gen]? = some (M.getD gen []) := by
      rw [List.getD_eq_getElem?_getD, List.getElem?_eq_getElem (by omega)]; rfl
    have d1 : ¬ (n8 : Int) ≤ (gen : Int) := by have := N8.out; omega
    have d2 : (0 : Int) ≤ (gen : Int) := by omega
    have d3 : (gen : Int) < (n8 : Int) := by omega
    obtain ⟨b8, o8, q, rfl, hb8, hq, hc8, hq2⟩ := R1.out.at_ (show gen < n8 by have := N8.out; omega)
    obtain ⟨qA, qn, qc, qx⟩ := q
    have hc8 : w1.cell? ⟨b8, o8 + gen, none⟩ = some (.slice qA qn qc) := hc8
    have hqx : M.getD gen [] = qx := by
      rw [← X1.out, rowsXs, List.getD_eq_getElem?_getD, List.getElem?_map, hq]; rfl
    obtain ⟨_, _, p1, p2⟩ := HG.out.piece hM
    rw [hqx] at p1 p2 hL
    have HX0 : Hid (∀ wq, Keep w1 wq → wq.cell? ⟨b, 0, none⟩ = some (.int .i64 (g : Int))) := fun wq k => (HA.out.keep (K1.out.trans k)).x0
    have HX1 : Hid (∀ wq, Keep w1 wq → wq.cell? ⟨b, 1, none⟩ = some (.int .i64 (s : Int))) := fun wq k => (HA.out.keep (K1.out.trans k)).x1
    have HXR : Hid (∀ wq, Keep w1 wq → wq.cell? ⟨b8, o8 + gen, none⟩ = some (.slice qA qn qc)) := fun wq k => by
      rw [World.cell?_of_block (k.block b8 (World.block_lt_of_cell? w1 _ hc8))]; exact hc8
    have HLA : Hid (∀ wq, Keep w1 wq → Calls Try.prog 60 #[.slice qA qn qc, .int .i64 (g : Int), .int .i64 (s : Int)] wq (NewRows wq sl 0)) := fun wq k => by
      have hp : Bytes wq wq.heap.size qA qn qx := by
        have := (hq2.turned (Turned.of_keep (F := fun _ => False) k) fun _ _ e => e).bytes (B := w1.heap.size) fun x hx => hx.2
        exact this.mono k.size
      have := rlay_any (g : Int) (s : Int) qA qn qc qx wq hp
      have hE : layE (g : Int) (s : Int) qx = 0 := by
        rw [layE, if_neg (not_not_intro HG.out.size.may), if_neg (by omega), if_neg (by rw [HG.out.size.int]; have := HG.out.size.lo; omega)]
      rw [layR, hE, if_pos rfl, Int.toNat_natCast, Int.toNat_natCast, hL] at this
      exact this
    clear hlt hM hqx p1 p2 hL hq hq2 hc8
    go_wp2_with fail
    refine wp_region_noPanic ?_
    refine wp_region_held_drew (S := fun wz => Keep w1 wz) (by kernel_rfl) (Keep.drew (Keep.refl w1)) (fun hHeld => ?_)
    refine wpAnyH_take (i := 0) (v := ?_) rfl (by kernel_rfl) (by kernel_rfl) (by kernel_rfl) (fun _ _ _ h => h) (Or.inl ⟨by rfl, ?_⟩) hHeld ?_
    rotate_left
    · intro wq hSw
      go_simp
      all_goals with_reducible rfl
    try simp only [Act.put, List.getElem_toArray, List.getElem_cons_succ, List.getElem_cons_zero, List.setIfInBounds_toArray, List.set_cons_zero, List.set_cons_succ]
    refine wpAnyH_take (i := 1) (v := ?_) rfl (by kernel_rfl) (by kernel_rfl) (by kernel_rfl) (fun _ _ _ h => h) (Or.inl ⟨by rfl, ?_⟩) hHeld ?_
    rotate_left
    · intro wq hSw
      go_simp
      all_goals with_reducible rfl
    try simp only [Act.put, List.getElem_toArray, List.getElem_cons_succ, List.getElem_cons_zero, List.setIfInBounds_toArray, List.set_cons_zero, List.set_cons_succ]
    refine wpAnyH_take (i := 2) (v := ?_) rfl (by kernel_rfl) (by kernel_rfl) (by kernel_rfl) (fun _ _ _ h => h) (Or.inl ⟨by rfl, ?_⟩) hHeld ?_
    rotate_left
    · intro wq hSw
      go_simp
      all_goals with_reducible rfl
    try simp only [Act.put, List.getElem_toArray, List.getElem_cons_succ, List.getElem_cons_zero, List.setIfInBounds_toArray, List.set_cons_zero, List.set_cons_succ]
    refine wpAnyH_take (i := 3) (v := ?_) rfl (by kernel_rfl) (by kernel_rfl) (by kernel_rfl) (fun _ _ _ h => h) (Or.inl ⟨by rfl, ?_⟩) hHeld ?_
    rotate_left
    · intro wq hSw
      have q0 := HXR.out wq hSw
      go_simp
      all_goals with_reducible rfl
    try simp only [Act.put, List.getElem_toArray, List.getElem_cons_succ, List.getElem_cons_zero, List.setIfInBounds_toArray, List.set_cons_zero, List.set_cons_succ]
    refine wpAnyH_take (i := 4) (v := ?_) rfl (by kernel_rfl) (by kernel_rfl) (by kernel_rfl) (fun _ _ _ h => h) (Or.inl ⟨by rfl, ?_⟩) hHeld ?_
    rotate_left
    · intro wq hSw
      go_simp
      all_goals with_reducible rfl
    try simp only [Act.put, List.getElem_toArray, List.getElem_cons_succ, List.getElem_cons_zero, List.setIfInBounds_toArray, List.set_cons_zero, List.set_cons_succ]
    refine wpAnyH_take (i := 5) (v := ?_) rfl (by kernel_rfl) (by kernel_rfl) (by kernel_rfl) (fun _ _ _ h => h) (Or.inl ⟨by rfl, ?_⟩) hHeld ?_
    rotate_left
    · intro wq hSw
      go_simp
      all_goals with_reducible rfl
    try simp only [Act.put, List.getElem_toArray, List.getElem_cons_succ, List.getElem_cons_zero, List.setIfInBounds_toArray, List.set_cons_zero, List.set_cons_succ]
    refine wpAnyH_take (i := 6) (v := ?_) rfl (by kernel_rfl) (by kernel_rfl) (by kernel_rfl) (fun _ _ _ h => h) (Or.inl ⟨by rfl, ?_⟩) hHeld ?_
    rotate_left
    · intro wq hSw
      go_simp
      all_goals with_reducible rfl
    try simp only [Act.put, List.getElem_toArray, List.getElem_cons_succ, List.getElem_cons_zero, List.setIfInBounds_toArray, List.set_cons_zero, List.set_cons_succ]
    refine wpAnyH_take (i := 7) (v := ?_) rfl (by kernel_rfl) (by kernel_rfl) (by kernel_rfl) (fun _ _ _ h => h) (Or.inl ⟨by rfl, ?_⟩) hHeld ?_
    rotate_left
    · intro wq hSw
      have q0 := HX0.out wq hSw
      go_simp
      all_goals with_reducible rfl
    try simp only [Act.put, List.getElem_toArray, List.getElem_cons_succ, List.getElem_cons_zero, List.setIfInBounds_toArray, List.set_cons_zero, List.set_cons_succ]
    refine wpAnyH_take (i := 8) (v := ?_) rfl (by kernel_rfl) (by kernel_rfl) (by kernel_rfl) (fun _ _ _ h => h) (Or.inl ⟨by rfl, ?_⟩) hHeld ?_
    rotate_left
    · intro wq hSw
      go_simp
      all_goals with_reducible rfl
    try simp only [Act.put, List.getElem_toArray, List.getElem_cons_succ, List.getElem_cons_zero, List.setIfInBounds_toArray, List.set_cons_zero, List.set_cons_succ]
    refine wpAnyH_take (i := 9) (v := ?_) rfl (by kernel_rfl) (by kernel_rfl) (by kernel_rfl) (fun _ _ _ h => h) (Or.inl ⟨by rfl, ?_⟩) hHeld ?_
    rotate_left
    · intro wq hSw
      go_simp
      all_goals with_reducible rfl
    try simp only [Act.put, List.getElem_toArray, List.getElem_cons_succ, List.getElem_cons_zero, List.setIfInBounds_toArray, List.set_cons_zero, List.set_cons_succ]
    refine wpAnyH_take (i := 10) (v := ?_) rfl (by kernel_rfl) (by kernel_rfl) (by kernel_rfl) (fun _ _ _ h => h) (Or.inl ⟨by rfl, ?_⟩) hHeld ?_
    rotate_left
    · intro wq hSw
      go_simp
      all_goals with_reducible rfl
    try simp only [Act.put, List.getElem_toArray, List.getElem_cons_succ, List.getElem_cons_zero, List.setIfInBounds_toArray, List.set_cons_zero, List.set_cons_succ]
    refine wpAnyH_take (i := 11) (v := ?_) rfl (by kernel_rfl) (by kernel_rfl) (by kernel_rfl) (fun _ _ _ h => h) (Or.inl ⟨by rfl, ?_⟩) hHeld ?_
    rotate_left
    · intro wq hSw
      have q0 := HX1.out wq hSw
      go_simp
      all_goals with_reducible rfl
    try simp only [Act.put, List.getElem_toArray, List.getElem_cons_succ, List.getElem_cons_zero, List.setIfInBounds_toArray, List.set_cons_zero, List.set_cons_succ]
    refine wpAnyH_ready (rs := [12]) (by kernel_rfl) (by simp) ?_
    refine AllReadyH.cons rfl (fun K hK => ?_) AllReadyH.nil
    go_simp
    refine (HLA.out _ hHeld).mono ?_
    rintro e w3 ⟨A, n, c, rfl, rs3, q1, q2, q3, q4⟩
    have HQ : Hid (∃ rs, RowsIn w3 (fun b => w.heap.size ≤ b ∧ b < w3.heap.size) A n rs ∧ n ≤ c ∧ rowsXs rs = sl ∧ Keep w w3) := by
      have hs := (K1.out.trans hHeld).size
      exact ⟨rs3, q1.mono fun x hx => ⟨by omega, hx.2⟩, q2, q3, (K1.out.trans hHeld).trans q4⟩
    have hh : Keep w1 w3 := Keep.trans hHeld q4
    clear q1 q2 q3 q4
    refine hK.out _ _ hh (fun hHeld => ?_)
    clear hK K
    try simp only [Act.put, List.getElem_toArray, List.getElem_cons_succ, List.getElem_cons_zero, List.setIfInBounds_toArray, List.set_cons_zero, List.set_cons_succ]
    refine wpAnyH_take (i := 13) (v := ?_) rfl (by kernel_rfl) (by kernel_rfl) (by kernel_rfl) (fun _ _ _ h => h) (Or.inl ⟨by rfl, ?_⟩) hHeld ?_
    rotate_left
    · intro wq hSw
      go_simp
      all_goals with_reducible rfl
    try simp only [Act.put, List.getElem_toArray, List.getElem_cons_succ, List.getElem_cons_zero, List.setIfInBounds_toArray, List.set_cons_zero, List.set_cons_succ]
    refine wpAnyH_take (i := 14) (v := ?_) rfl (by kernel_rfl) (by kernel_rfl) (by kernel_rfl) (fun _ _ _ h => h) (Or.inl ⟨by rfl, ?_⟩) hHeld ?_
    rotate_left
    · intro wq hSw
      go_simp
      all_goals with_reducible rfl
    try simp only [Act.put, List.getElem_toArray, List.getElem_cons_succ, List.getElem_cons_zero, List.setIfInBounds_toArray, List.set_cons_zero, List.set_cons_succ]
    refine wpAnyH_take (i := 15) (v := ?_) rfl (by kernel_rfl) (by kernel_rfl) (by kernel_rfl) (fun _ _ _ h => h) (Or.inl ⟨by rfl, ?_⟩) hHeld ?_
    rotate_left
    · intro wq hSw
      go_simp
      all_goals with_reducible rfl
    try simp only [Act.put, List.getElem_toArray, List.getElem_cons_succ, List.getElem_cons_zero, List.setIfInBounds_toArray, List.set_cons_zero, List.set_cons_succ]
    refine wpAnyH_take (i := 16) (v := ?_) rfl (by kernel_rfl) (by kernel_rfl) (by kernel_rfl) (fun _ _ _ h => h) (Or.inl ⟨by rfl, ?_⟩) hHeld ?_
    rotate_left
    · intro wq hSw
      go_simp
      all_goals with_reducible rfl
    try simp only [Act.put, List.getElem_toArray, List.getElem_cons_succ, List.getElem_cons_zero, List.setIfInBounds_toArray, List.set_cons_zero, List.set_cons_succ]
    refine wpAnyH_done (by kernel_rfl) ?_ _
    refine NoPanic.normal ?_
    clear hHeld
    clear HLA HX0 HX1 HXR
    go_wp2_with fail
    go_ret2
    exact ⟨A, n, c, rfl, HQ.out⟩
set_option maxRecDepth 100000 in
set_option maxHeartbeats 4000000 in
theorem rrowm_any {P : Nat} (h : RefR w E b g s xs cs cl) (hG : GoodS g s P xs cs M) (hcs : cs.length ≤ 1000000) (hl : xs.length ≤ 100000) (gen : Nat) (hgen : gen < 18446744073709551616) (B5 n5 c5 : Nat) (A5 : Option Addr) (D : List Nat) (hD : Bytes w B5 A5 n5 D) (hB : B5 ≤ w.heap.size) :
    Calls Try.prog 24 #[.pointer (some ⟨b, 0, none⟩), .int .u64 (gen : Int), .slice A5 n5 c5] w (NewRow w (rowC g M gen D) (rowP g s M gen D) (rowE g M gen D.length)) := by
  have hDl := hD.length
  obtain ⟨H, hH⟩ : ∃ H, w.heap.size = H := ⟨_, rfl⟩
  obtain ⟨w0, hw0⟩ : ∃ w0, w.alloc (.cells #[.slice none 0 0, .slice none 0 0] 56) = w0 := ⟨_, rfl⟩
  have k0 : Keep w w0 := by rw [← hw0]; exact (Keep.refl w).alloc _ _
  have p0 : Pair2 w0 H (.slice none 0 0) (.slice none 0 0) 56 := by rw [← hw0, ← hH]; exact Pair2.new w _ _ _
  have HSY := Lib.hid (rsyms_any (h.keep k0) hG hcs hl gen hgen)
  obtain ⟨A1, n1, c1, A2, n2, c2, ha⟩ := h
  have HA := Lib.hid ha
  have HG := Lib.hid hG
  obtain ⟨re, hre⟩ : ∃ re, rowE g M gen D.length = re := ⟨_, rfl⟩
  obtain ⟨rC, hrC⟩ : ∃ rC, rowC g M gen D = rC := ⟨_, rfl⟩
  obtain ⟨rP, hrP⟩ : ∃ rP, rowP g s M gen D = rP := ⟨_, rfl⟩
  rw [hre, hrC, hrP]
  have HRE := Lib.hid hre
  have HRC := Lib.hid hrC
  have HRP := Lib.hid hrP
  have HDL := Lib.hid hDl
  have K0 := Lib.hid k0
  have P0 := Lib.hid p0
  have HD := Lib.hid hD
  have HBB := Lib.hid hB
  have HHH := Lib.hid hH
  have HE0 : Hid (rowE g M gen D.length = if M.length ≤ gen then 23 else if n5 = g then 0 else 21) := by show _ = _; rw [rowE, hDl]
  have hs2 := hG.size.s1
  have hg2 := hG.size.g1
  clear ha hG hcs hl hre hrC hrP hD hB k0 p0 hDl
  go_enter Try.func24, Try.ntmps24
  go_wp2_with fail
  refine HSY.out.mono ?_
  rintro e w1 ⟨A8, n8, c8, rfl, rs, r1, r2, r3, k1⟩
  have K1 := Lib.hid k1
  have R1 := Lib.hid r1
  have X1 := Lib.hid r3
  have p1 := P0.out.keep k1
  have x0 := p1.cell0
  have x1 := p1.cell1
  have f0 := p1.free 0
  have f1 := p1.free 1
  have p8 := p1.put0 (x := .slice none 0 0)
  have y1 := p8.cell1
  have g1 := p8.free 1
  have p9 := p8.put1 (x := .slice none 0 0)
  have xg := (HA.out.keep (K0.out.trans k1)).x0
  have K9 : Hid (Keep w ((w1.setCell ⟨H, 0, none⟩ (.slice none 0 0)).setCell ⟨H, 1, none⟩ (.slice none 0 0))) := ((K0.out.trans k1).setCell (a := ⟨H, 0, none⟩) (by have := HHH.out; show _ ≤ H; omega) _).setCell (a := ⟨H, 1, none⟩) (by have := HHH.out; show _ ≤ H; omega) _
  have hbad : re ≠ 0 → rC = [] ∧ rP = [] := fun hz => ⟨by rw [← HRC.out]; exact if_neg (by rw [HRE.out]; exact hz), by rw [← HRP.out]; exact if_neg (by rw [HRE.out]; exact hz)⟩
  have HBAD := Lib.hid hbad
  clear r1 r2 r3 k1 p1 p8 HSY hbad
  by_cases hlt : M.length ≤ gen
  · have hr : re = 23 := by rw [← HRE.out, HE0.out, if_pos hlt]
    obtain ⟨rfl, rfl⟩ := HBAD.out (by omega)
    subst hr
    have hs : symE M gen = 23 := if_pos hlt
    rw [hs]
    clear hlt hs
    go_wp2_with fail
    refine bodyPost_ret (results_cell_and (p := 6) (u := 7) (ty := 56) rfl _ _ H 56 _ (0, 0) _ rfl p9 Try.underlying56 rfl infoARow) rfl ?_
    exact ⟨none, 0, 0, none, 0, 0, rfl, Own.none_ _ _ _, Own.none_ _ _ _, K9.out⟩
  · have hs : symE M gen = 0 := if_neg hlt
    rw [hs]
    by_cases hn : n5 = g
    · have hr : re = 0 := by rw [← HRE.out, HE0.out, if_neg hlt, if_pos hn]
      subst hr
      have hC : rC = D := by rw [← HRC.out]; exact if_pos HRE.out
      have hP : rP = vComb s (layN g s (M.getD gen [])) D g := by rw [← HRP.out]; exact if_pos HRE.out
      have hLs : symL g s M gen = layN g s (M.getD gen []) := if_neg hlt
      subst hn
      have hM : M[gen]? = some (M.getD gen []) := by
        rw [List.getD_eq_getElem?_getD, List.getElem?_eq_getElem (by omega)]; rfl
      obtain ⟨_, _, pp1, pp2⟩ := HG.out.piece hM
      have hlo := HG.out.size.lo
      have HLR : Hid (∀ q ∈ layN n5 s (M.getD gen []), q.length = s) := fun q hq => by
        rw [layN, cutsN] at hq
        obtain ⟨i, hi, rfl⟩ := List.mem_map.1 hq
        exact cutN_len (g := n5) (allN_len (by rw [HG.out.size.eq]; omega)) (List.mem_range.1 hi)
      have hn8 : n8 = n5 := by
        rw [← R1.out.1]
        have : (rowsXs rs).length = rs.length := by simp [rowsXs]
        rw [← this, X1.out, hLs]; exact cutsN_len _ _ _
      subst hn8
      have HRN : Hid (∀ q ∈ rs, q.n = s) := fun q hq => by
        have h0 : q.xs ∈ layN n8 s (M.getD gen []) := by rw [← hLs, ← X1.out]; exact List.mem_map.2 ⟨q, hq, rfl⟩
        rw [← HLR.out _ h0]; exact (R1.out.2.1 q hq).1.symm
      have HVC : Hid (vComb s (rowsXs rs) D n8 = rP) := by show _ = _; rw [X1.out, hLs, hP]
      have HX1 : Hid (∀ wq, Keep w1 wq → wq.cell? ⟨b, 1, none⟩ = some (.int .i64 (s : Int))) := fun wq k => (HA.out.keep ((K0.out.trans K1.out).trans k)).x1
      have HCC := Lib.hid hC
      clear hlt hs hM pp1 pp2 hlo hLs hC hP p9 K9 y1 g1
      go_wp2_with fail
      have HX1w : Hid (∀ wq, Keep w wq → wq.cell? ⟨b, 1, none⟩ = some (.int .i64 (s : Int))) := fun wq k => (HA.out.keep k).x1
      refine wp_region_noPanic ?_
      refine wp_region_held_drew (S := fun wz => Keep w wz) (by kernel_rfl) (Keep.drew (K0.out.trans K1.out)) (fun hHeld => ?_)
      have hk1 : Keep w1 (World.drew w1) := Keep.drew (Keep.refl w1)
      refine wpAnyH_take (i := 0) (v := ?_) rfl (by kernel_rfl) (by kernel_rfl) (by kernel_rfl) (fun _ _ _ h => h) (Or.inl ⟨by rfl, ?_⟩) hHeld ?_
      rotate_left
      · intro wq hSw
        go_simp
        all_goals with_reducible rfl
      try simp only [Act.put, List.getElem_toArray, List.getElem_cons_succ, List.getElem_cons_zero, List.setIfInBounds_toArray, List.set_cons_zero, List.set_cons_succ]
      refine wpAnyH_take (i := 2) (v := ?_) rfl (by kernel_rfl) (by kernel_rfl) (by kernel_rfl) (fun _ _ _ h => h) (Or.inl ⟨by rfl, ?_⟩) hHeld ?_
      rotate_left
      · intro wq hSw
        go_simp
        all_goals with_reducible rfl
      try simp only [Act.put, List.getElem_toArray, List.getElem_cons_succ, List.getElem_cons_zero, List.setIfInBounds_toArray, List.set_cons_zero, List.set_cons_succ]
      refine wpAnyH_take (i := 3) (v := ?_) rfl (by kernel_rfl) (by kernel_rfl) (by kernel_rfl) (fun _ _ _ h => h) (Or.inl ⟨by rfl, ?_⟩) hHeld ?_
      rotate_left
      · intro wq hSw
        go_simp
        all_goals with_reducible rfl
      try simp only [Act.put, List.getElem_toArray, List.getElem_cons_succ, List.getElem_cons_zero, List.setIfInBounds_toArray, List.set_cons_zero, List.set_cons_succ]
      refine wpAnyH_take (i := 4) (v := ?_) rfl (by kernel_rfl) (by kernel_rfl) (by kernel_rfl) (fun _ _ _ h => h) (Or.inl ⟨by rfl, ?_⟩) hHeld ?_
      rotate_left
      · intro wq hSw
        go_simp
        all_goals with_reducible rfl
      try simp only [Act.put, List.getElem_toArray, List.getElem_cons_succ, List.getElem_cons_zero, List.setIfInBounds_toArray, List.set_cons_zero, List.set_cons_succ]
      refine wpAnyH_take (i := 5) (v := ?_) rfl (by kernel_rfl) (by kernel_rfl) (by kernel_rfl) (fun _ _ _ h => h) (Or.inl ⟨by rfl, ?_⟩) hHeld ?_
      rotate_left
      · intro wq hSw
        go_simp
        all_goals with_reducible rfl
      try simp only [Act.put, List.getElem_toArray, List.getElem_cons_succ, List.getElem_cons_zero, List.setIfInBounds_toArray, List.set_cons_zero, List.set_cons_succ]
      refine wpAnyH_take (i := 6) (v := ?_) rfl (by kernel_rfl) (by kernel_rfl) (by kernel_rfl) (fun _ _ _ h => h) (Or.inl ⟨by rfl, ?_⟩) hHeld ?_
      rotate_left
      · intro wq hSw
        go_simp
        all_goals with_reducible rfl
      try simp only [Act.put, List.getElem_toArray, List.getElem_cons_succ, List.getElem_cons_zero, List.setIfInBounds_toArray, List.set_cons_zero, List.set_cons_succ]
      refine wpAnyH_take (i := 7) (v := ?_) rfl (by kernel_rfl) (by kernel_rfl) (by kernel_rfl) (fun _ _ _ h => h) (Or.inl ⟨by rfl, ?_⟩) hHeld ?_
      rotate_left
      · intro wq hSw
        have q0 := HX1w.out wq hSw
        go_simp
        all_goals with_reducible rfl
      try simp only [Act.put, List.getElem_toArray, List.getElem_cons_succ, List.getElem_cons_zero, List.setIfInBounds_toArray, List.set_cons_zero, List.set_cons_succ]
      refine wpAnyH_ready (rs := [1]) (by kernel_rfl) (by simp) ?_
      refine AllReadyH.cons rfl (fun K hK => ?_) AllReadyH.nil
      go_simp
      refine (rown_any _ n8 c5 A5 D _ (HD.out.keep HBB.out hHeld) (by omega)).mono ?_
      rintro e w2 ⟨A6, n6, c6, rfl, o6, k6⟩
      obtain rfl : n8 = n6 := by have := o6.length; have := HDL.out; omega
      have hk2 : Keep w1 w2 := hk1.trans k6
      have O6 : Hid (Own w2 w1.heap.size 5 A6 n8 c6 D) := o6.lower hk1.size
      have kk6 : Keep w w2 := Keep.trans hHeld k6
      clear o6
      refine hK.out _ _ kk6 (fun hHeld => ?_)
      clear hK K
      try simp only [Act.put, List.getElem_toArray, List.getElem_cons_succ, List.getElem_cons_zero, List.setIfInBounds_toArray, List.set_cons_zero, List.set_cons_succ]
      refine wpAnyH_ready (rs := [8]) (by kernel_rfl) (by simp) ?_
      refine AllReadyH.cons rfl (fun K hK => ?_) AllReadyH.nil
      go_simp
      refine (rtimes_any B5 n8 s c5 c8 A5 A8 _ D rs _ (HD.out.keep HBB.out hHeld) (R1.out.turned (Turned.of_keep (F := fun _ => False) hk2) fun _ _ e => e) (by have := HBB.out; have := Keep.size hHeld; omega) (fun x hx => Nat.lt_of_lt_of_le hx.2 hk2.size) (by omega) (by omega) HRN.out).mono ?_
      rintro e w3 ⟨A7, n7, c7, rfl, o7, k7⟩
      have O6' : Hid (Own w3 w1.heap.size 5 A6 n8 c6 D) := O6.out.keep k7
      have O7 : Hid (Own w3 w1.heap.size 5 A7 n7 c7 rP) := by
        have := o7.lower hk2.size
        rw [HVC.out] at this
        exact this
      have kk7 : Keep w w3 := Keep.trans hHeld k7
      have pp := P0.out.keep (K1.out.trans (hk2.trans k7))
      have v0 := pp.cell0
      have v1 := pp.cell1
      have g0 := pp.free 0
      have g1 := pp.free 1
      have pp8 := pp.put0 (x := .slice A6 n8 c6)
      have u1 := pp8.cell1
      have h1 := pp8.free 1
      have p9 := pp8.put1 (x := .slice A7 n7 c7)
      have K9 : Keep w ((w3.setCell ⟨H, 0, none⟩ (.slice A6 n8 c6)).setCell ⟨H, 1, none⟩ (.slice A7 n7 c7)) := (kk7.setCell (a := ⟨H, 0, none⟩) (by have := HHH.out; show _ ≤ H; omega) _).setCell (a := ⟨H, 1, none⟩) (by have := HHH.out; show _ ≤ H; omega) _
      have t9 : Turned (fun i => i = H) w3 ((w3.setCell ⟨H, 0, none⟩ (.slice A6 n8 c6)).setCell ⟨H, 1, none⟩ (.slice A7 n7 c7)) := (Turned.set (F := fun i => i = H) w3 ⟨H, 0, none⟩ _ rfl).trans (Turned.set (F := fun i => i = H) _ ⟨H, 1, none⟩ _ rfl) fun i e => Or.inl e
      have hlo : w.heap.size = H ∧ H < w1.heap.size := ⟨HHH.out, (P0.out.keep K1.out).lt⟩
      have P6 : Hid (Own ((w3.setCell ⟨H, 0, none⟩ (.slice A6 n8 c6)).setCell ⟨H, 1, none⟩ (.slice A7 n7 c7)) w.heap.size 5 A6 n8 c6 rC) := by
        show Own _ _ _ _ _ _ _
        rw [HCC.out]
        exact (O6'.out.turned t9 fun i e e2 => by have := (O6'.out.blt i e).1; omega).lower (by omega)
      have P7 : Hid (Own ((w3.setCell ⟨H, 0, none⟩ (.slice A6 n8 c6)).setCell ⟨H, 1, none⟩ (.slice A7 n7 c7)) w.heap.size 5 A7 n7 c7 rP) := (O7.out.turned t9 fun i e e2 => by have := (O7.out.blt i e).1; omega).lower (by omega)
      clear o7 O6 O6' O7 pp pp8 t9 hlo
      refine hK.out _ _ kk7 (fun hHeld => ?_)
      clear hK K
      try simp only [Act.put, List.getElem_toArray, List.getElem_cons_succ, List.getElem_cons_zero, List.setIfInBounds_toArray, List.set_cons_zero, List.set_cons_succ]
      refine wpAnyH_take (i := 9) (v := ?_) rfl (by kernel_rfl) (by kernel_rfl) (by kernel_rfl) (fun _ _ _ h => h) (Or.inl ⟨by rfl, ?_⟩) hHeld ?_
      rotate_left
      · intro wq hSw
        go_simp
        all_goals with_reducible rfl
      try simp only [Act.put, List.getElem_toArray, List.getElem_cons_succ, List.getElem_cons_zero, List.setIfInBounds_toArray, List.set_cons_zero, List.set_cons_succ]
      refine wpAnyH_ready (rs := [10]) (by kernel_rfl) (by simp) ?_
      refine AllReadyH.cons rfl (fun K hK => ?_) AllReadyH.nil
      go_simp
      refine hK.out _ _ K9 (fun hHeld => ?_)
      clear hK K
      try simp only [Act.put, List.getElem_toArray, List.getElem_cons_succ, List.getElem_cons_zero, List.setIfInBounds_toArray, List.set_cons_zero, List.set_cons_succ]
      refine wpAnyH_take (i := 11) (v := ?_) rfl (by kernel_rfl) (by kernel_rfl) (by kernel_rfl) (fun _ _ _ h => h) (Or.inl ⟨by rfl, ?_⟩) hHeld ?_
      rotate_left
      · intro wq hSw
        go_simp
        all_goals with_reducible rfl
      try simp only [Act.put, List.getElem_toArray, List.getElem_cons_succ, List.getElem_cons_zero, List.setIfInBounds_toArray, List.set_cons_zero, List.set_cons_succ]
      refine wpAnyH_done (by kernel_rfl) ?_ _
      refine NoPanic.normal ?_
      clear hHeld
      go_wp2_with fail
      refine bodyPost_ret (results_cell_and (p := 6) (u := 7) (ty := 56) rfl _ _ H 56 _ (0, 0) _ rfl p9 Try.underlying56 rfl infoARow) rfl ?_
      exact ⟨A6, n8, c6, A7, n7, c7, rfl, P6.out, P7.out, K9⟩
    · have hr : re = 21 := by rw [← HRE.out, HE0.out, if_neg hlt, if_neg hn]
      obtain ⟨rfl, rfl⟩ := HBAD.out (by omega)
      subst hr
      have d1 : ((n5 : Int) != (g : Int)) = true := bne_iff_ne.2 (by omega)
      have d2 : ¬ (n5 : Int) = (g : Int) := by omega
      clear hlt hs hn
      go_wp2_with fail
      refine bodyPost_ret (results_cell_and (p := 6) (u := 7) (ty := 56) rfl _ _ H 56 _ (0, 0) _ rfl p9 Try.underlying56 rfl infoARow) rfl ?_
      exact ⟨none, 0, 0, none, 0, 0, rfl, Own.none_ _ _ _, Own.none_ _ _ _, K9.out⟩
end
end Go.Proofs.Ytcafofffgmaepaa
/- The document's own source: Send, Restore, New. -/
namespace Go.Proofs.Ytcafofffgmaepaa
open Go.RowKit
set_option linter.unusedVariables false
set_option linter.unusedSimpArgs false
section
variable {w w' : World} {E G : Nat → Prop} {b g s : Nat} {xs cs ys : List Nat} {cl : Bool} {M : List (List Nat)}
/-- A unit is laid. -/
theorem unit_made (w : World) (g i : Nat) (hi : i < g) (hg : g ≤ 255) : ∃ w2, (w.alloc (.cells (madeCells #[.int .u8 0] g) 5)).setCell ⟨w.heap.size, i, none⟩ (.int .u8 1) = w2 ∧ Keep w w2 ∧ Own w2 w.heap.size 5 (some ⟨w.heap.size, 0, none⟩) g g (vUnit g i) := by
  have hm := Own.made w 5 g (by omega)
  have hs := hm.stored (i := i) (v := 1) (by decide)
  rw [vUnit_set g i] at hs
  exact ⟨_, rfl, ((Keep.refl w).alloc _ _).setCell (a := ⟨w.heap.size, i, none⟩) (Nat.le_refl _) _, hs⟩
set_option maxRecDepth 100000 in
set_option maxHeartbeats 4000000 in
theorem rsend_any {P : Nat} (h : RefR w E b g s xs cs cl) (hG : GoodS g s P xs cs M) (hcs : cs.length ≤ 1000000) (hl : xs.length ≤ 100000) (gen : Nat) (hgen : gen < 18446744073709551616) (sent : Nat) (hsent : sent < 18446744073709551616) (B5 n5 c5 : Nat) (A5 : Option Addr) (D : List Nat) (hD : Bytes w B5 A5 n5 D) (hB : B5 ≤ w.heap.size) (h5 : n5 ≤ 140737488351232) :
    Calls Try.prog 27 #[.pointer (some ⟨b, 0, none⟩), .int .u64 (gen : Int), .int .u64 (sent : Int), .slice A5 n5 c5] w (NewRow w (sendC g M gen sent D) (sendP g s M gen sent D) (symE M gen)) := by
  obtain ⟨H, hH⟩ : ∃ H, w.heap.size = H := ⟨_, rfl⟩
  obtain ⟨w0, hw0⟩ : ∃ w0, w.alloc (.cells #[.slice none 0 0, .slice none 0 0] 56) = w0 := ⟨_, rfl⟩
  have k0 : Keep w w0 := by rw [← hw0]; exact (Keep.refl w).alloc _ _
  have p0 : Pair2 w0 H (.slice none 0 0) (.slice none 0 0) 56 := by rw [← hw0, ← hH]; exact Pair2.new w _ _ _
  have HGE := Lib.hid (rgens_any (h.keep k0) hG hl hcs)
  have HRW : Hid (∀ wq (A5 : Option Addr) (c5 : Nat) (D : List Nat), Keep w wq → Bytes wq wq.heap.size A5 g D → Calls Try.prog 24 #[.pointer (some ⟨b, 0, none⟩), .int .u64 (gen : Int), .slice A5 g c5] wq (NewRow wq (rowC g M gen D) (rowP g s M gen D) (rowE g M gen D.length))) := fun wq A5 c5 D k hb => rrowm_any (h.keep k) hG hcs hl gen hgen wq.heap.size g c5 A5 D hb (Nat.le_refl _)
  obtain ⟨A1, n1, c1, A2, n2, c2, ha⟩ := h
  have HA := Lib.hid ha
  obtain ⟨re, hre⟩ : ∃ re, symE M gen = re := ⟨_, rfl⟩
  obtain ⟨rC, hrC⟩ : ∃ rC, sendC g M gen sent D = rC := ⟨_, rfl⟩
  obtain ⟨rP, hrP⟩ : ∃ rP, sendP g s M gen sent D = rP := ⟨_, rfl⟩
  rw [hre, hrC, hrP]
  have HRE := Lib.hid hre
  have HRC := Lib.hid hrC
  have HRP := Lib.hid hrP
  have K0 := Lib.hid k0
  have P0 := Lib.hid p0
  have HD := Lib.hid hD
  have HBB := Lib.hid hB
  have HHH := Lib.hid hH
  have hg1 := hG.size.g0
  have hg2 := hG.size.g1
  have hfew := hG.few
  obtain ⟨k, hk⟩ : ∃ k, M.length = k := ⟨_, rfl⟩
  have HK := Lib.hid hk
  rw [hk] at HGE hfew
  have u1 : IntKind.u64.wrap (g : Int) = (g : Int) := IntWalk.u64_in _ (by omega)
  clear ha hG hcs hl hre hrC hrP hD hB k0 p0 hk
  go_enter Try.func27, Try.ntmps27
  go_wp2_with fail
  refine HGE.out.mono ?_
  rintro e w1 ⟨rfl, k1⟩
  have K1 := Lib.hid k1
  clear k1 HGE
  by_cases hlt : k ≤ gen
  · have hz : symE M gen = 23 := if_pos (by rw [HK.out]; exact hlt)
    have hr : re = 23 := by rw [← HRE.out, hz]
    have hC : rC = [] := by rw [← HRC.out, sendC, if_neg (by rw [hz]; decide)]
    have hP : rP = [] := by rw [← HRP.out, sendP, if_neg (by rw [hz]; decide)]
    subst hr hC hP
    have p1 := P0.out.keep K1.out
    have x0 := p1.cell0
    have x1 := p1.cell1
    have f0 := p1.free 0
    have f1 := p1.free 1
    have p8 := p1.put0 (x := .slice none 0 0)
    have y1 := p8.cell1
    have g1 := p8.free 1
    have p9 := p8.put1 (x := .slice none 0 0)
    have K9 : Hid (Keep w ((w1.setCell ⟨H, 0, none⟩ (.slice none 0 0)).setCell ⟨H, 1, none⟩ (.slice none 0 0))) := ((K0.out.trans K1.out).setCell (a := ⟨H, 0, none⟩) (by have := HHH.out; show _ ≤ H; omega) _).setCell (a := ⟨H, 1, none⟩) (by have := HHH.out; show _ ≤ H; omega) _
    have d1 : (k : Int) ≤ (gen : Int) := by omega
    clear p1 p8 hz hlt
    go_wp2_with fail
    refine bodyPost_ret (results_cell_and (p := 8) (u := 9) (ty := 56) rfl _ _ H 56 _ (0, 0) _ rfl p9 Try.underlying56 rfl infoARow) rfl ?_
    exact ⟨none, 0, 0, none, 0, 0, rfl, Own.none_ _ _ _, Own.none_ _ _ _, K9.out⟩
  · have hz : symE M gen = 0 := if_neg (by rw [HK.out]; exact hlt)
    have hr : re = 0 := by rw [← HRE.out, hz]
    have hC : rC = sendN g sent D := by rw [← HRC.out, sendC, if_pos hz]
    have hP : rP = vComb s (layN g s (M.getD gen [])) (sendN g sent D) g := by rw [← HRP.out, sendP, if_pos hz]
    have hrow : rowE g M gen (sendN g sent D).length = 0 := by rw [rowE, if_neg (by rw [HK.out]; exact hlt), if_pos (sendN_len _ _ _)]
    have hrc : rowC g M gen (sendN g sent D) = rC := by rw [hC]; exact if_pos hrow
    have hrp : rowP g s M gen (sendN g sent D) = rP := by rw [hP]; exact if_pos hrow
    subst hr
    have HR2 : Hid (∀ wq (A5 : Option Addr) (c5 : Nat), Keep w wq → Bytes wq wq.heap.size A5 g (sendN g sent D) → Calls Try.prog 24 #[.pointer (some ⟨b, 0, none⟩), .int .u64 (gen : Int), .slice A5 g c5] wq (NewRow wq rC rP 0)) := fun wq A5 c5 kq hb => by
      have := HRW.out wq A5 c5 _ kq hb
      rwa [hrc, hrp, hrow] at this
    have d1 : ¬ (k : Int) ≤ (gen : Int) := by omega
    have x0 := (HA.out.keep (K0.out.trans K1.out)).x0
    clear hz hC hP hrow hrc hrp hlt HRW
    by_cases hs : sent < g
    · have hN : sendN g sent D = vUnit g sent := if_pos hs
      rw [hN] at HR2
      have d2 : (sent : Int) < (g : Int) := by omega
      have d3 : (0 : Int) ≤ (sent : Int) := by omega
      have mk := run_make_bytes (P := Try.prog) Try.underlying22 info5 g (by omega) w1
      have hm := Own.made w1 5 g (by omega)
      have hc := hm.cell hs
      have hf := hm.frozen sent
      have hst := hm.stored (i := sent) (v := 1) (by decide)
      rw [World.setCell_alloc_new, vUnit_set g sent, show ((1 : Nat) : Int) = 1 from rfl] at hst
      obtain ⟨w2, hw2⟩ : ∃ w2, w1.alloc (.cells ((madeCells #[Value.int .u8 0] g).setIfInBounds sent (.int .u8 1)) 5) = w2 := ⟨_, rfl⟩
      rw [hw2] at hst
      have HST := Lib.hid hst
      have K2 : Hid (Keep w1 w2) := by show Keep _ _; rw [← hw2]; exact (Keep.refl w1).alloc _ _
      generalize (List.replicate g 0).getD sent 0 = z at hc
      clear hN hm hst
      go_wp2_with fail
      try rw [hw2]
      refine (HR2.out w2 _ g ((K0.out.trans K1.out).trans K2.out) HST.out.bytes).mono ?_
      clear hc hf
      rintro e w3 ⟨A, n, c, A', n', c', rfl, q1, q2, q3⟩
      have p6 := (P0.out.keep (K1.out.trans (K2.out))).keep q3
      have v0 := p6.cell0
      have v1 := p6.cell1
      have f0 := p6.free 0
      have f1 := p6.free 1
      have p8 := p6.put0 (x := .slice A n c)
      have y1 := p8.cell1
      have g1 := p8.free 1
      have p9 := p8.put1 (x := .slice A' n' c')
      have K6 : Hid (Keep w w3) := ((K0.out.trans K1.out).trans (K2.out)).trans q3
      have hlo : w.heap.size = H ∧ H < w2.heap.size := ⟨HHH.out, (P0.out.keep (K1.out.trans (K2.out))).lt⟩
      have K9 : Hid (Keep w ((w3.setCell ⟨H, 0, none⟩ (.slice A n c)).setCell ⟨H, 1, none⟩ (.slice A' n' c'))) := (K6.out.setCell (a := ⟨H, 0, none⟩) (by have := HHH.out; show _ ≤ H; omega) _).setCell (a := ⟨H, 1, none⟩) (by have := HHH.out; show _ ≤ H; omega) _
      have t9 : Turned (fun i => i = H) w3 ((w3.setCell ⟨H, 0, none⟩ (.slice A n c)).setCell ⟨H, 1, none⟩ (.slice A' n' c')) := (Turned.set (F := fun i => i = H) w3 ⟨H, 0, none⟩ _ rfl).trans (Turned.set (F := fun i => i = H) _ ⟨H, 1, none⟩ _ rfl) fun i e => Or.inl e
      have P7 : Hid (Own ((w3.setCell ⟨H, 0, none⟩ (.slice A n c)).setCell ⟨H, 1, none⟩ (.slice A' n' c')) w.heap.size 5 A n c rC) := (q1.turned t9 fun i e e2 => by have := (q1.blt i e).1; omega).lower (by omega)
      have P8 : Hid (Own ((w3.setCell ⟨H, 0, none⟩ (.slice A n c)).setCell ⟨H, 1, none⟩ (.slice A' n' c')) w.heap.size 5 A' n' c' rP) := (q2.turned t9 fun i e e2 => by have := (q2.blt i e).1; omega).lower (by omega)
      clear p6 p8 q1 q2 q3 t9 hlo
      go_wp2_with fail
      refine bodyPost_ret (results_cell_and (p := 8) (u := 9) (ty := 56) rfl _ _ H 56 _ (0, 0) _ rfl p9 Try.underlying56 rfl infoARow) rfl ?_
      exact ⟨A, n, c, A', n', c', rfl, P7.out, P8.out, K9.out⟩
    · have hN : sendN g sent D = coefN g (sent % g) D := if_neg hs
      rw [hN] at HR2
      have d2 : ¬ (sent : Int) < (g : Int) := by omega
      obtain ⟨t, ht⟩ : ∃ t, sent % g = t := ⟨_, rfl⟩
      have htl : t < g := by rw [← ht]; exact Nat.mod_lt _ (by omega)
      have C2 := Lib.hid (fun w => rturn_any sent g hsent hg1 hg2 w)
      rw [ht] at C2 HR2
      have C3 := Lib.hid (rcoefs_any B5 g t n5 c5 A5 D w1 (HD.out.keep HBB.out (K0.out.trans K1.out)) (by have := HBB.out; have := (K0.out.trans K1.out).size; omega) hg1 hg2 htl h5)
      have HCL := Lib.hid (coefN_len g t D)
      generalize coefN g t D = N at *
      clear hN ht hs
      go_wp2_with fail
      refine (C2.out _).mono ?_
      rintro e wz ⟨rfl, rfl⟩
      go_wp2_with fail
      refine C3.out.mono ?_
      rintro e w2 ⟨A6, n6, c6, rfl, o6, k2⟩
      obtain rfl : n6 = g := by have := o6.length; have := HCL.out; omega
      have K2 := Lib.hid k2
      have O6 := Lib.hid o6
      clear o6 k2
      go_wp2_with fail
      refine (HR2.out w2 _ c6 ((K0.out.trans K1.out).trans K2.out) O6.out.bytes).mono ?_
      rintro e w3 ⟨A, n, c, A', n', c', rfl, q1, q2, q3⟩
      have p6 := (P0.out.keep (K1.out.trans (K2.out))).keep q3
      have v0 := p6.cell0
      have v1 := p6.cell1
      have f0 := p6.free 0
      have f1 := p6.free 1
      have p8 := p6.put0 (x := .slice A n c)
      have y1 := p8.cell1
      have g1 := p8.free 1
      have p9 := p8.put1 (x := .slice A' n' c')
      have K6 : Hid (Keep w w3) := ((K0.out.trans K1.out).trans (K2.out)).trans q3
      have hlo : w.heap.size = H ∧ H < w2.heap.size := ⟨HHH.out, (P0.out.keep (K1.out.trans (K2.out))).lt⟩
      have K9 : Hid (Keep w ((w3.setCell ⟨H, 0, none⟩ (.slice A n c)).setCell ⟨H, 1, none⟩ (.slice A' n' c'))) := (K6.out.setCell (a := ⟨H, 0, none⟩) (by have := HHH.out; show _ ≤ H; omega) _).setCell (a := ⟨H, 1, none⟩) (by have := HHH.out; show _ ≤ H; omega) _
      have t9 : Turned (fun i => i = H) w3 ((w3.setCell ⟨H, 0, none⟩ (.slice A n c)).setCell ⟨H, 1, none⟩ (.slice A' n' c')) := (Turned.set (F := fun i => i = H) w3 ⟨H, 0, none⟩ _ rfl).trans (Turned.set (F := fun i => i = H) _ ⟨H, 1, none⟩ _ rfl) fun i e => Or.inl e
      have P7 : Hid (Own ((w3.setCell ⟨H, 0, none⟩ (.slice A n c)).setCell ⟨H, 1, none⟩ (.slice A' n' c')) w.heap.size 5 A n c rC) := (q1.turned t9 fun i e e2 => by have := (q1.blt i e).1; omega).lower (by omega)
      have P8 : Hid (Own ((w3.setCell ⟨H, 0, none⟩ (.slice A n c)).setCell ⟨H, 1, none⟩ (.slice A' n' c')) w.heap.size 5 A' n' c' rP) := (q2.turned t9 fun i e e2 => by have := (q2.blt i e).1; omega).lower (by omega)
      clear p6 p8 q1 q2 q3 t9 hlo
      go_wp2_with fail
      refine bodyPost_ret (results_cell_and (p := 8) (u := 9) (ty := 56) rfl _ _ H 56 _ (0, 0) _ rfl p9 Try.underlying56 rfl infoARow) rfl ?_
      exact ⟨A, n, c, A', n', c', rfl, P7.out, P8.out, K9.out⟩
set_option maxRecDepth 100000 in
set_option maxHeartbeats 4000000 in
theorem rrestore_bad (g s : Int) (n c m c' : Nat) (A A' : Option Addr) (M : List (List Nat)) (O : List Nat) (er : Int) (cl : Bool) (hn : n ≤ 262144)
    (hch : ∀ w', Keep w w' → Calls Try.prog 50 #[.slice A n c, .slice A' m c', .int .i64 g, .int .i64 s] w' (NewChunks w' M O er)) (he : ¬ er = 0 ∨ er = 0 ∧ cl = true ∧ O ≠ []) :
    Calls Try.prog 12 #[.int .i64 g, .int .i64 s, .slice A n c, .slice A' m c', .bool cl] w fun e w' => e = .returned (.tuple #[.pointer none, .int .i64 1]) ∧ Keep w w' := by
  have HCH := Lib.hid (hch w (Keep.refl w))
  have HE := Lib.hid he
  clear hch he
  have d1 : ¬ (262144 : Int) < (n : Int) := by omega
  go_enter Try.func12, Try.ntmps12
  go_wp2_with fail
  refine HCH.out.mono ?_
  rintro e w1 ⟨A8, n8, c8, A9, n9, c9, rfl, _, q2, q3⟩
  have K1 := Lib.hid q3
  have hn9 : O.length = n9 := q2.length
  rcases HE.out with h1 | ⟨h1, rfl, h3⟩
  · clear q2 q3 HE HCH hn9
    go_wp2_with fail
    go_ret2
    exact ⟨rfl, K1.out⟩
  · subst h1
    have d2 : (0 : Int) < (n9 : Int) := by
      rcases Nat.eq_zero_or_pos n9 with e | e
      · exact absurd (List.eq_nil_of_length_eq_zero (by omega)) h3
      · omega
    clear q2 q3 HE HCH hn9 h3
    go_wp2_with fail
    go_ret2
    exact ⟨rfl, K1.out⟩
set_option maxRecDepth 100000 in
set_option maxHeartbeats 4000000 in
theorem rrestore_good (G S : Nat) (n c m c' B1 B2 : Nat) (A A' : Option Addr) (xs cs : List Nat) (M : List (List Nat)) (O : List Nat) (cl : Bool) (hn : n ≤ 262144) (hB1 : B1 ≤ w.heap.size) (hB2 : B2 ≤ w.heap.size) (hx : Bytes w B1 A n xs) (hc : NatsAt w B2 A' m cs) (hm : m ≤ 17592186044416)
    (hch : ∀ w', Keep w w' → Calls Try.prog 50 #[.slice A n c, .slice A' m c', .int .i64 (G : Int), .int .i64 (S : Int)] w' (NewChunks w' M O 0)) (he : ¬ (cl = true ∧ O ≠ [])) :
    Calls Try.prog 12 #[.int .i64 (G : Int), .int .i64 (S : Int), .slice A n c, .slice A' m c', .bool cl] w fun e w' => ∃ b E, e = .returned (.tuple #[.pointer (some ⟨b, 0, none⟩), .int .i64 0]) ∧ RefR w' E b G S xs cs cl ∧ (∀ i, E i → w.heap.size ≤ i) ∧ Keep w w' := by
  have HCH := Lib.hid (hch w (Keep.refl w))
  have HE := Lib.hid he
  have HX := Lib.hid hx
  have HC := Lib.hid hc
  have HB := Lib.hid (And.intro hB1 hB2)
  clear hch he hx hc hB1 hB2
  have d1 : ¬ (262144 : Int) < (n : Int) := by omega
  go_enter Try.func12, Try.ntmps12
  go_wp2_with fail
  refine HCH.out.mono ?_
  rintro e w1 ⟨A8, n8, c8, A9, n9, c9, rfl, _, q2, q3⟩
  have K1 := Lib.hid q3
  have hn9 : O.length = n9 := q2.length
  have hcl : cl = false ∨ (cl = true ∧ n9 = 0) := by
    cases cl with
    | false => exact Or.inl rfl
    | true =>
      right
      rcases Nat.eq_zero_or_pos n9 with e | e
      · exact ⟨rfl, e⟩
      · exact absurd ⟨rfl, fun h => by rw [h] at hn9; simp at hn9; omega⟩ HE.out
  have HEND : Hid (∀ (w2 : World) (A6 : Option Addr) (n6 c6 : Nat), Own w2 w1.heap.size 5 A6 n6 c6 xs → Keep w1 w2 → ∀ (w3 : World) (A7 : Option Addr) (c7 : Nat), w3.ownsRow 0 3 1 (.slice A7 m c7) m (natsV cs) → w2.grownBy w3 none → ((Value.slice A7 m c7).ownBlock = none ∨ (Value.slice A7 m c7).ownBlock = some w2.heap.size) → ∀ w4, w3.alloc (.cells #[.int .i64 (G : Int), .int .i64 (S : Int), .slice A6 n6 c6, .slice A7 m c7, .bool cl] 66) = w4 → ∃ E, RefR w4 E w3.heap.size G S xs cs cl ∧ (∀ i, E i → w.heap.size ≤ i) ∧ Keep w w4) := by
    intro w2 A6 n6 c6 o6 k2 w3 A7 c7 o7 g7 r7 w4 hw4
    have k3 : Keep w2 w3 := Keep.grown (Keep.refl w2) g7 fun k hk => by cases hk
    have k4 : Keep w3 w4 := by rw [← hw4]; exact (Keep.refl w3).alloc _ _
    have hs1 := K1.out.size
    have hs2 := k2.size
    have hs3 := k3.size
    have hz : w4.heap.size = w3.heap.size + 1 := by rw [← hw4]; simp
    have o7' : OwnI w3 0 A7 m c7 cs := o7
    refine ⟨fun k => (Value.slice A6 n6 c6).ownBlock = some k ∨ (Value.slice A7 m c7).ownBlock = some k ∨ k = w3.heap.size, ⟨_, _, _, _, _, c7, ⟨?_, (o6.keep (k3.trans k4)).lies.mono fun k e => ⟨Or.inl e, ?_⟩, (NatsIn.of_own (o7'.keep k4)).mono fun k e => ⟨Or.inr (Or.inl e), ?_⟩, Or.inr (Or.inr rfl), fun k e => ?_⟩⟩, fun i e => ?_, ((K1.out.trans k2).trans k3).trans k4⟩
    · rw [← hw4]; exact heap_alloc_new w3 _
    · have := (o6.blt k e).2; omega
    · have := (o7'.blt k e).2; omega
    · rcases e with e | e | e
      · have := (o6.blt k e).2; omega
      · have := (o7'.blt k e).2; omega
      · omega
    · rcases e with e | e | e
      · have := (o6.blt i e).1; omega
      · rcases r7 with r | r
        · rw [r] at e; cases e
        · rw [r] at e; injection e with e; omega
      · omega
  clear q2 q3 HE HCH hn9
  rcases hcl with rfl | ⟨rfl, rfl⟩
  · have dn : (0 : Int) ≤ (n9 : Int) := by omega
    go_wp2_with fail
    refine (rown_any B1 n c A xs w1 (HX.out.keep HB.out.1 K1.out) (by omega)).mono ?_
    rintro e w2 ⟨A6, n6, c6, rfl, o6, k6⟩
    have O6 := Lib.hid o6
    have K2 := Lib.hid k6
    have N2 : Hid (w2.ownsRow 0 3 1 (.slice none 0 0) 0 (natsV [])) := OwnI.none_ w2 0
    clear o6 k6
    go_wp2_with (at_builtin; refine wpList_append_ints rfl _ _ 23 rfl Try.underlying23 infoInt rfl N2.out rfl (HC.out.keep HB.out.2 (K1.out.trans K2.out)) ?c1 (Nat.zero_le _) ?_)
    case c1 => omega
    intro A7 c7 w3 h7 g7 r7
    obtain ⟨w4, hw4⟩ : ∃ w4, w3.alloc (.cells #[.int .i64 (G : Int), .int .i64 (S : Int), .slice A6 n6 c6, .slice A7 m c7, .bool false] 66) = w4 := ⟨_, rfl⟩
    obtain ⟨E, e1, e2, e3⟩ := HEND.out w2 A6 n6 c6 O6.out K2.out w3 A7 c7 (by simpa using h7) g7 r7 w4 hw4
    have E1 := Lib.hid e1
    have E2 := Lib.hid e2
    have E3 := Lib.hid e3
    clear e1 e2 e3 h7 g7 r7
    go_wp2_with fail
    go_ret2
    exact ⟨_, E, rfl, E1.out, E2.out, E3.out⟩
  · have dn : ¬ (0 : Int) < ((0 : Nat) : Int) := by omega
    go_wp2_with fail
    refine (rown_any B1 n c A xs w1 (HX.out.keep HB.out.1 K1.out) (by omega)).mono ?_
    rintro e w2 ⟨A6, n6, c6, rfl, o6, k6⟩
    have O6 := Lib.hid o6
    have K2 := Lib.hid k6
    have N2 : Hid (w2.ownsRow 0 3 1 (.slice none 0 0) 0 (natsV [])) := OwnI.none_ w2 0
    clear o6 k6
    go_wp2_with (at_builtin; refine wpList_append_ints rfl _ _ 23 rfl Try.underlying23 infoInt rfl N2.out rfl (HC.out.keep HB.out.2 (K1.out.trans K2.out)) ?c1 (Nat.zero_le _) ?_)
    case c1 => omega
    intro A7 c7 w3 h7 g7 r7
    obtain ⟨w4, hw4⟩ : ∃ w4, w3.alloc (.cells #[.int .i64 (G : Int), .int .i64 (S : Int), .slice A6 n6 c6, .slice A7 m c7, .bool true] 66) = w4 := ⟨_, rfl⟩
    obtain ⟨E, e1, e2, e3⟩ := HEND.out w2 A6 n6 c6 O6.out K2.out w3 A7 c7 (by simpa using h7) g7 r7 w4 hw4
    have E1 := Lib.hid e1
    have E2 := Lib.hid e2
    have E3 := Lib.hid e3
    clear e1 e2 e3 h7 g7 r7
    go_wp2_with fail
    go_ret2
    exact ⟨_, E, rfl, E1.out, E2.out, E3.out⟩
end
end Go.Proofs.Ytcafofffgmaepaa
