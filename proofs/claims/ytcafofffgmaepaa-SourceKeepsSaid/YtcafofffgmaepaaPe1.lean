/- The contracts of layer 9 for any sizes. -/
import Derived.Test.YtcafofffgmaepaaPc
import Derived.Test.YtcafofffgmaepaaPd
namespace Go.Proofs.Ytcafofffgmaepaa
open Go.RowKit
set_option linter.unusedVariables false
set_option linter.unusedSimpArgs false
def roomV (g s : Int) : Int := if MayG g s then g * s - 4 else 0
def roomE (g s : Int) : Int := if MayG g s then 0 else 1
theorem proom_any (g s : Int) (w : World) : Calls Try.prog 67 #[.int .i64 g, .int .i64 s] w fun e w' => e = .returned (.tuple #[.int .i64 (roomV g s), .int .i64 (roomE g s)]) ∧ w = w' := by
  by_cases h : MayG g s
  · rw [roomV, roomE, if_pos h, if_pos h]
    obtain ⟨G, S, P, rfl, rfl, a1, a2, a3, a4, a5, a6, a7, a8⟩ := h.nat
    have := proom_in G S P a1 a2 a3 a4 a8 a6 a7 w
    rwa [a8, show (P : Int) - 4 = ((P - 4 : Nat) : Int) by omega]
  · rw [roomV, roomE, if_neg h, if_neg h]
    exact proom_out g s h w
theorem rroom_any (g s : Int) (w : World) : Calls Try.prog 89 #[.int .i64 g, .int .i64 s] w fun e w' => e = .returned (.tuple #[.int .i64 (roomV g s), .int .i64 (roomE g s)]) ∧ w = w' := by
  by_cases h : MayG g s
  · rw [roomV, roomE, if_pos h, if_pos h]
    obtain ⟨G, S, P, rfl, rfl, a1, a2, a3, a4, a5, a6, a7, a8⟩ := h.nat
    have := rroom_in G S P a1 a2 a3 a4 a8 a6 a7 w
    rwa [a8, show (P : Int) - 4 = ((P - 4 : Nat) : Int) by omega]
  · rw [roomV, roomE, if_neg h, if_neg h]
    exact rroom_out g s h w
def layE (g s : Int) (xs : List Nat) : Int := if ¬ MayG g s then 1 else if xs.length = 0 then 4 else if g * s < (xs.length : Int) + 4 then 3 else 0
def layR (g s : Int) (xs : List Nat) : List (List Nat) := if layE g s xs = 0 then layN g.toNat s.toNat xs else []
/-- Rows whose first bytes may be turned. -/
def TurnAt (w : World) (base : Nat) (A : Option Addr) (n : Nat) : Prop :=
  n = 0 ∨ ∃ gr b S c P ys, A = some ⟨gr, 0, none⟩ ∧ base ≤ gr ∧ gr < w.heap.size ∧ base ≤ b ∧ b ≠ gr ∧ 1 ≤ S ∧ (∀ k, k < n → k * S < P) ∧ (∀ k, k < n → w.cell? ⟨gr, k, none⟩ = some (.slice (some ⟨b, k * S, none⟩) S S)) ∧ Own w base 5 (some ⟨b, 0, none⟩) P c ys
def NewLay (w : World) (M : List (List Nat)) (er : Int) (e : Ending) (w' : World) : Prop :=
  ∃ A n c, e = .returned (.tuple #[.slice A n c, .int .i64 er]) ∧ (∃ rs, RowsIn w' (fun b => w.heap.size ≤ b ∧ b < w'.heap.size) A n rs ∧ n ≤ c ∧ rowsXs rs = M) ∧ TurnAt w' w.heap.size A n ∧ n ≤ 255 ∧ Keep w w'
theorem NewLay.nil (w : World) (er : Int) : NewLay w [] er (.returned (.tuple #[.slice none 0 0, .int .i64 er])) w := ⟨none, 0, 0, rfl, ⟨[], RowsIn.nothing _ _ _, Nat.le_refl _, rfl⟩, Or.inl rfl, by omega, Keep.refl w⟩
theorem LaidAt.rows {w : World} {base gr b c G S P : Nat} {ys : List Nat} (h : LaidAt w base gr b c G S P ys) (hP : G * S = P) : RowsIn w (fun x => base ≤ x ∧ x < w.heap.size) (some ⟨gr, 0, none⟩) G (rsL b S ys G) := by
  refine RowsIn.of_own h.1 (fun r hr => ?_) fun x hx => ⟨h.1.rowLe x hx, (h.1.lt x hx).2⟩
  obtain ⟨i, hi, rfl⟩ := List.mem_map.1 hr
  have hi := List.mem_range.1 hi
  have hle : (i + 1) * S ≤ G * S := Nat.mul_le_mul_right S hi
  rw [Nat.add_mul, Nat.one_mul] at hle
  have hyl : ys.length = P := h.2.length
  refine ⟨?_, fun x hx => h.2.2 x (List.mem_of_mem_drop (List.mem_of_mem_take hx)), Nat.le_refl _, fun hp => ⟨b, i * S, rfl, ?_, fun j hj => ?_⟩⟩
  · show (cutN S i ys).length = S
    rw [cutN, List.length_take, List.length_drop]; omega
  · have hp : 0 < S := hp
    obtain ⟨b2, e, e2, e3⟩ := h.2.block (by omega)
    injection e with e; injection e with e
    subst e
    exact ⟨e2, e3⟩
  · have hj : j < S := hj
    rw [h.2.cell (i := i * S + j) (by omega)]
    show _ = some (Value.int .u8 (((cutN S i ys).getD j 0 : Nat) : Int))
    rw [cutN, List.getD_eq_getElem?_getD, List.getD_eq_getElem?_getD, List.getElem?_take, if_pos hj, List.getElem?_drop]
theorem LaidAt.turn {w : World} {base gr b c G S P : Nat} {ys : List Nat} (h : LaidAt w base gr b c G S P ys) (hP : G * S = P) (hS : 1 ≤ S) (hG : 1 ≤ G) : TurnAt w base (some ⟨gr, 0, none⟩) G := by
  have h1 := h.1.rowLe gr rfl
  have h2 := h.2.rowLe b rfl
  refine Or.inr ⟨gr, b, S, c, P, ys, rfl, h1, (h.1.lt gr rfl).2, h2, ?_, hS, fun k hk => ?_, fun k hk => ?_, h.2⟩
  · rcases blocks_apart h.2 h.1 (by decide) with e | e
    · cases e
    · exact fun e2 => e (by show some b = some gr; rw [e2])
  · have hle : (k + 1) * S ≤ G * S := Nat.mul_le_mul_right S hk
    rw [Nat.add_mul, Nat.one_mul] at hle
    omega
  · have := World.ownsRow.cellAt h.1 k (by omega)
    rw [this, List.getElem?_map, rsL_get hk]; rfl
theorem play_any (g s : Int) (A : Option Addr) (n c : Nat) (xs : List Nat) (w : World) (h : Bytes w w.heap.size A n xs) : Calls Try.prog 95 #[.slice A n c, .int .i64 g, .int .i64 s] w (NewLay w (layR g s xs) (layE g s xs)) := by
  have hl := h.length
  by_cases hm : MayG g s
  · obtain ⟨G, S, P, rfl, rfl, a1, a2, a3, a4, a5, a6, a7, a8⟩ := hm.nat
    by_cases h0 : xs.length = 0
    · have e : layE (G : Int) (S : Int) xs = 4 := by rw [layE, if_neg (not_not_intro hm), if_pos h0]
      rw [layR, e, if_neg (by decide)]
      obtain rfl : n = 0 := by omega
      exact (play_none G S P a1 a2 a3 a4 a8 a6 a7 A c w).mono fun e w' he => by rw [he.1, ← he.2]; exact NewLay.nil w 4
    · by_cases h1 : P < n + 4
      · have e : layE (G : Int) (S : Int) xs = 3 := by rw [layE, if_neg (not_not_intro hm), if_neg h0, if_pos (by rw [a8]; omega)]
        rw [layR, e, if_neg (by decide)]
        exact (play_long G S P n a1 a2 a3 a4 a8 a6 a7 h1 A c w).mono fun e w' he => by rw [he.1, ← he.2]; exact NewLay.nil w 3
      · have e : layE (G : Int) (S : Int) xs = 0 := by rw [layE, if_neg (not_not_intro hm), if_neg h0, if_neg (by rw [a8]; omega)]
        rw [layR, e, if_pos rfl]
        refine (play_in G S P n a1 a2 a3 a4 a8 a6 a7 (by omega) (by omega) A c xs w h).mono fun e w' he => ?_
        obtain ⟨gr, b, cc, rfl, hL, hk⟩ := he
        exact ⟨_, G, G, rfl, ⟨_, hL.rows a5, Nat.le_refl _, by rw [rsL_xs, layN, Int.toNat_natCast, Int.toNat_natCast, a5]⟩, hL.turn a5 a3 a1, a2, hk⟩
  · have e : layE g s xs = 1 := by rw [layE, if_pos hm]
    rw [layR, e, if_neg (by decide)]
    exact (play_out g s hm A n c w).mono fun e w' he => by rw [he.1, ← he.2]; exact NewLay.nil w 1
theorem rlay_any (g s : Int) (A : Option Addr) (n c : Nat) (xs : List Nat) (w : World) (h : Bytes w w.heap.size A n xs) : Calls Try.prog 60 #[.slice A n c, .int .i64 g, .int .i64 s] w (NewRows w (layR g s xs) (layE g s xs)) := by
  have hl := h.length
  by_cases hm : MayG g s
  · obtain ⟨G, S, P, rfl, rfl, a1, a2, a3, a4, a5, a6, a7, a8⟩ := hm.nat
    by_cases h0 : xs.length = 0
    · have e : layE (G : Int) (S : Int) xs = 4 := by rw [layE, if_neg (not_not_intro hm), if_pos h0]
      rw [layR, e, if_neg (by decide)]
      obtain rfl : n = 0 := by omega
      exact rlay_none G S P a1 a2 a3 a4 a8 a6 a7 A c w
    · by_cases h1 : P < n + 4
      · have e : layE (G : Int) (S : Int) xs = 3 := by rw [layE, if_neg (not_not_intro hm), if_neg h0, if_pos (by rw [a8]; omega)]
        rw [layR, e, if_neg (by decide)]
        exact rlay_long G S P n a1 a2 a3 a4 a8 a6 a7 h1 A c w
      · have e : layE (G : Int) (S : Int) xs = 0 := by rw [layE, if_neg (not_not_intro hm), if_neg h0, if_neg (by rw [a8]; omega)]
        rw [layR, e, if_pos rfl]
        exact rlay_in G S P n a1 a2 a3 a4 a8 a6 a7 (by omega) (by omega) A c xs w h
  · have e : layE g s xs = 1 := by rw [layE, if_pos hm]
    rw [layR, e, if_neg (by decide)]
    exact rlay_out g s hm A n c w
def tkE (g s : Int) (R : List (List Nat)) : Int := if ¬ MayG g s then 1 else takeE g.toNat s.toNat R
def tkV (g s : Int) (R : List (List Nat)) : List Nat := if ¬ MayG g s then [] else takeV g.toNat s.toNat R
theorem take_dim {G S : Nat} {R : List (List Nat)} (h : R.length ≠ G) : takeE G S R = 21 ∧ takeV G S R = [] := by
  have e : takeE G S R = 21 := by rw [takeE, if_pos fun hk => h hk.1]
  exact ⟨e, by rw [takeV, e, if_neg (by decide)]⟩
theorem ptake_any (g s : Int) (A : Option Addr) (n c : Nat) (rs : List RowV) (w : World) (h : RowsAt w w.heap.size A n rs) : Calls Try.prog 35 #[.slice A n c, .int .i64 g, .int .i64 s] w (NewPair w (tkV g s (rowsOf rs)) (tkE g s (rowsOf rs))) := by
  by_cases hm : MayG g s
  · rw [tkE, tkV, if_neg (not_not_intro hm), if_neg (not_not_intro hm)]
    obtain ⟨G, S, P, rfl, rfl, a1, a2, a3, a4, a5, a6, a7, a8⟩ := hm.nat
    rw [Int.toNat_natCast, Int.toNat_natCast]
    by_cases hn : n = G
    · subst hn; exact ptake_in n S P a1 a2 a3 a4 a8 a6 a7 A c rs w h
    · have := take_dim (G := G) (S := S) (R := rowsOf rs) (by rw [rowsOf, List.length_map, h.1]; exact hn)
      rw [this.1, this.2]
      exact ptake_dim G S P n a1 a2 a3 a4 a8 a6 a7 hn A c w
  · rw [tkE, tkV, if_pos hm, if_pos hm]
    exact ptake_out g s hm A n c w
/-- What Chunks tells, of a stream and its cuts. -/
def ToldC (g s : Int) (n : Nat) (xs : List Nat) (l : List Int) (M : List (List Nat)) (O : List Nat) (er : Int) : Prop :=
  ((¬ MayG g s ∨ ¬ GoodC n l l.length) ∧ M = [] ∧ O = [] ∧ er = 1) ∨
  (∃ (G S P : Nat) (cs : List Nat), g = G ∧ s = S ∧ 5 ≤ P ∧ P ≤ 16711425 ∧ g * s = (P : Int) ∧ MayG g s ∧ l = cs.map (fun x : Nat => (x : Int)) ∧ (∀ x ∈ cs, x ≤ n) ∧ (∀ (i j x y : Nat), i ≤ j → cs[i]? = some x → cs[j]? = some y → x ≤ y) ∧ M = (chunkN (P - 4) cs xs (n + 1)).1 ∧ O = xs.drop (chunkN (P - 4) cs xs (n + 1)).2 ∧ er = 0)
theorem ToldC.len {g s : Int} {n : Nat} {xs : List Nat} {l : List Int} {M : List (List Nat)} {O : List Nat} {er : Int} (h : ToldC g s n xs l M O er) : M.length ≤ n + 1 := by
  rcases h with ⟨_, rfl, _, _⟩ | ⟨G, S, P, cs, _, _, _, _, _, _, _, _, _, rfl, _, _⟩
  · simp
  · exact chunk_count _
theorem Laying.count {W w : World} {A : Option Addr} {n c : Nat} {rs : List RowV} {M : List (List Nat)} (h : Laying W w A n c rs) (hx : rowsXs rs = M) : n = M.length := by
  rw [← hx, rowsXs, List.length_map]; exact h.1.length.symm
theorem chunks_told (g s : Int) (n m : Nat) (hn : n ≤ 100000) (hm : m ≤ 140737488351232) (A A' : Option Addr) (c c' : Nat) (xs : List Nat) (l : List Int) (w : World) (h : Bytes w w.heap.size A n xs) (hc : n ≤ c) (h' : IntsAt w w.heap.size A' m l) (hz : ∀ z ∈ l, -9223372036854775808 ≤ z ∧ z ≤ 9223372036854775807) :
    ∃ M O er, ToldC g s n xs l M O er ∧ (∀ w', Keep w w' → Calls Try.prog 45 #[.slice A n c, .slice A' m c', .int .i64 g, .int .i64 s] w' (NewCh w' M O er)) ∧ (∀ w', Keep w w' → Calls Try.prog 50 #[.slice A n c, .slice A' m c', .int .i64 g, .int .i64 s] w' (NewChunks w' M O er)) := by
  have hb : ∀ w', Keep w w' → Bytes w' w'.heap.size A n xs := fun w' k => (h.keep (Nat.le_refl _) k).mono k.size
  have hi : ∀ w', Keep w w' → IntsAt w' w'.heap.size A' m l := fun w' k => by
    have h1 := h'.keep (Nat.le_refl _) k
    exact ⟨h1.1, fun hp => by
      obtain ⟨b, off, e, hb, hcc⟩ := h1.2 hp
      exact ⟨b, off, e, Nat.lt_of_lt_of_le hb k.size, hcc⟩⟩
  by_cases hM : MayG g s
  · obtain ⟨G, S, P, rfl, rfl, a1, a2, a3, a4, a5, a6, a7, a8⟩ := hM.nat
    by_cases hG : GoodC n l m
    · rw [← h'.1] at hG
      obtain ⟨cs, rfl, hle, hso⟩ := good_nat hG
      exact ⟨_, _, _, Or.inr ⟨G, S, P, cs, rfl, rfl, a6, a7, a8, hM, rfl, hle, hso, rfl, rfl, rfl⟩, fun w' k => pchunks_in G S P n m a1 a2 a3 a4 a8 a6 a7 hn hm A A' c c' xs cs w' (hb w' k) hc (hi w' k) hle hso,
        fun w' k => rchunks_in G S P n m a1 a2 a3 a4 a8 a6 a7 hn hm A A' c c' xs cs w' (hb w' k) hc (hi w' k) hle hso⟩
    · exact ⟨[], [], 1, Or.inl ⟨Or.inr (by rw [h'.1]; exact hG), rfl, rfl, rfl⟩, fun w' k => pchunks_bad G S P n m a1 a2 a3 a4 a8 a6 a7 (by omega) hm A A' c c' l w' (hi w' k) hG,
        fun w' k => rchunks_bad G S P n m a1 a2 a3 a4 a8 a6 a7 (by omega) hm A A' c c' l w' (hi w' k) hz hG⟩
  · exact ⟨[], [], 1, Or.inl ⟨Or.inl hM, rfl, rfl, rfl⟩, fun w' k => pchunks_out g s hM A A' n c m c' w', fun w' k => rchunks_out g s hM A A' n c m c' w'⟩
end Go.Proofs.Ytcafofffgmaepaa
