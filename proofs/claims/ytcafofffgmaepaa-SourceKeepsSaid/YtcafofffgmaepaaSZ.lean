/- The landed source: the symbols of a generation. -/
import Derived.Test.YtcafofffgmaepaaSY
import Derived.Test.YtcafofffgmaepaaDD
import Derived.Test.YtcafofffgmaepaaSm1
import Derived.Test.YtcafofffgmaepaaVA
namespace Go.Proofs.Ytcafofffgmaepaa
open Go.RowKit
set_option linter.unusedVariables false
set_option linter.unusedSimpArgs false
section
variable {w w' : World} {F G : Nat → Prop} {b g s : Nat} {A1 : Option Addr} {n1 c1 : Nat} {A2 : Option Addr} {n2 c2 : Nat} {A3 : Option Addr} {n3 c3 : Nat} {xs cs : List Nat} {M : List (List Nat)} {cl : Bool}
/-- Rows made anew, whose first bytes may be turned. -/
def SymAt (w w' : World) (A : Option Addr) (n c : Nat) (L : List (List Nat)) : Prop :=
  (∃ rs, RowsIn w' (fun b => w.heap.size ≤ b ∧ b < w'.heap.size) A n rs ∧ n ≤ c ∧ rowsXs rs = L) ∧ TurnAt w' w.heap.size A n ∧ n ≤ 255 ∧ Keep w w'
def NewSym (w : World) (L : List (List Nat)) (e : Ending) (w' : World) : Prop := ∃ A n c, e = .returned (.slice A n c) ∧ SymAt w w' A n c L
theorem TurnAt.lower {w' : World} {base base' : Nat} {A : Option Addr} {n : Nat} (h : TurnAt w' base A n) (hb : base' ≤ base) : TurnAt w' base' A n := by
  rcases h with h | ⟨gr, b, S, c, P, ys, h1, h2, h3, h4, h5, h6, h7, h8, h9⟩
  · exact Or.inl h
  · exact Or.inr ⟨gr, b, S, c, P, ys, h1, by omega, h3, by omega, h5, h6, h7, h8, h9.lower hb⟩
theorem SymAt.before {w0 w w' : World} {A : Option Addr} {n c : Nat} {L : List (List Nat)} (h : SymAt w w' A n c L) (k : Keep w0 w) : SymAt w0 w' A n c L := by
  obtain ⟨⟨rs, r1, r2, r3⟩, t, hn, kk⟩ := h
  have hs := k.size
  exact ⟨⟨rs, r1.mono fun b hb => ⟨by omega, hb.2⟩, r2, r3⟩, t.lower hs, hn, k.trans kk⟩
theorem SymAt.count {A : Option Addr} {n c : Nat} {L : List (List Nat)} (h : SymAt w w' A n c L) : L.length = n := by
  obtain ⟨⟨rs, r1, r2, r3⟩, _⟩ := h
  rw [← r3, rowsXs, List.length_map]; exact r1.1
theorem GoodS.piece {P : Nat} (h : GoodS g s P xs cs M) {i : Nat} {r : List Nat} (hr : M[i]? = some r) : r = pieceN xs (startN M i) (startN M i + r.length) ∧ startN M i + r.length ≤ xs.length ∧ 1 ≤ r.length ∧ r.length ≤ P - 4 := by
  have h1 := h.room
  have hf := gens_take (cs := cs) (xs := xs) h1
  have hl := h.from_
  rw [← h.gens] at hf
  obtain ⟨e1, e2⟩ := startN_piece hf hl hr
  have h2 := gens_each h1 (cuts := cs) (xs := xs) r (by rw [← h.gens]; exact List.mem_of_getElem? hr)
  exact ⟨e1, by omega, h2⟩
set_option maxRecDepth 100000 in
set_option maxHeartbeats 4000000 in
theorem symbols_any {P : Nat} (h : SrcR w F b g s xs cs M cl) (hG : GoodS g s P xs cs M) (gen : Nat) (r : List Nat) (hr : M[gen]? = some r) :
    Calls Try.prog 59 #[.pointer (some ⟨b, 0, none⟩), .int .u64 (gen : Int)] w (NewSym w (layN g s r)) := by
  obtain ⟨A1, n1, c1, A2, n2, c2, A3, n3, c3, h⟩ := h
  have e1 := h.n1eq
  have e3 := h.n3eq
  have hlt : gen < M.length := by
    rcases Nat.lt_or_ge gen M.length with h1 | h1
    · exact h1
    · rw [List.getElem?_eq_none h1] at hr; cases hr
  have hfew := hG.few
  have hlen := hG.len
  obtain ⟨pc, ple, p1, p2⟩ := hG.piece hr
  obtain ⟨st, hst⟩ : ∃ st, startN M gen = st := ⟨_, rfl⟩
  obtain ⟨en, hen⟩ : ∃ en, startN M (gen + 1) = en := ⟨_, rfl⟩
  have hse : en = st + r.length := by rw [← hen, ← hst, startN_succ hr]
  rw [hst] at pc ple
  obtain ⟨bb, off, rfl, _, hc⟩ := h.s3.ints.2 (by omega)
  have hc := hc gen (en : Int) (by rw [List.getElem?_map, endsN_get hlt, hen]; rfl)
  have HX0 : Hid (∀ wq, Keep w wq → wq.cell? ⟨b, 0, none⟩ = some (.int .i64 (g : Int))) := fun wq k => (h.keep k).x0
  have HX1 : Hid (∀ wq, Keep w wq → wq.cell? ⟨b, 1, none⟩ = some (.int .i64 (s : Int))) := fun wq k => (h.keep k).x1
  have HX2 : Hid (∀ wq, Keep w wq → wq.cell? ⟨b, 2, none⟩ = some (.slice A1 n1 c1)) := fun wq k => (h.keep k).x2
  have HX4 : Hid (∀ wq, Keep w wq → wq.cell? ⟨b, 4, none⟩ = some (.slice (some ⟨bb, off, none⟩) n3 c3)) := fun wq k => (h.keep k).x4
  have HXE : Hid (∀ wq, Keep w wq → wq.cell? ⟨bb, off + gen, none⟩ = some (.int .i64 (en : Int))) := fun wq k => by
    rw [World.cell?_of_block (k.block bb (World.block_lt_of_cell? w _ hc))]; exact hc
  have HST : Hid (∀ wq, Keep w wq → Calls Try.prog 88 #[.pointer (some ⟨b, 0, none⟩), .int .i64 (gen : Int)] wq fun e w' => e = .returned (.int .i64 (st : Int)) ∧ wq = w') := fun wq k => start_any (h.keep k) gen st (by omega) (by omega) hst
  have hcap := own_le' h.s1
  have sl := run_piece st en n1 c1 A1 (by omega) (by omega)
  have HLA : Hid (∀ wq, Keep w wq → Calls Try.prog 95 #[.slice (dropA A1 c1 st) (en - st) (c1 - st), .int .i64 (g : Int), .int .i64 (s : Int)] wq (NewLay wq (layN g s r) 0)) := fun wq k => by
    have hp := ((h.keep k).s1.bytes).piece (f := st) (t := en) (by omega) (by omega) hcap
    have := play_any (g : Int) (s : Int) _ _ (c1 - st) _ wq hp
    have hpx : pieceN xs st en = r := by rw [hse]; exact pc.symm
    rw [hpx] at this
    have hE : layE (g : Int) (s : Int) r = 0 := by
      rw [layE, if_neg (not_not_intro hG.size.may), if_neg (by omega), if_neg (by rw [hG.size.int]; have := hG.size.lo; omega)]
    rw [layR, hE, if_pos rfl, Int.toNat_natCast, Int.toNat_natCast] at this
    exact this
  have d1 : IntKind.i64.wrap (gen : Int) = (gen : Int) := IntWalk.i64_in _ (by omega)
  have d2 : (0 : Int) ≤ (gen : Int) := by omega
  have d3 : (gen : Int) < (n3 : Int) := by omega
  obtain ⟨ln, hln⟩ : ∃ ln, en - st = ln := ⟨_, rfl⟩
  rw [hln] at sl HLA
  have d4 : gen ≤ 1000000 := by omega
  clear h hG hr hst hen hse pc ple p1 p2 hc hcap hlt hfew hlen hln e1 e3
  go_enter Try.func59, Try.ntmps59
  go_wp2_with fail
  refine wp_region_noPanic ?_
  refine wp_region_held_drew (S := fun wz => Keep w wz) (by kernel_rfl) (Keep.drew (Keep.refl w)) (fun hHeld => ?_)
  refine wpAnyH_take (i := 0) (v := ?_) rfl (by kernel_rfl) (by kernel_rfl) (by kernel_rfl) (fun _ _ _ h => h) (Or.inl ⟨by rfl, ?_⟩) hHeld ?_
  rotate_left
  · intro wq hSw
    go_simp
    all_goals with_reducible rfl
  try simp only [Act.put, List.getElem_toArray, List.getElem_cons_succ, List.getElem_cons_zero, List.setIfInBounds_toArray, List.set_cons_zero, List.set_cons_succ]
  refine wpAnyH_take (i := 1) (v := ?_) rfl (by kernel_rfl) (by kernel_rfl) (by kernel_rfl) (fun _ _ _ h => h) (Or.inl ⟨by rfl, ?_⟩) hHeld ?_
  rotate_left
  · intro wq hSw
    go_simp
    all_goals with_reducible rfl
  try simp only [Act.put, List.getElem_toArray, List.getElem_cons_succ, List.getElem_cons_zero, List.setIfInBounds_toArray, List.set_cons_zero, List.set_cons_succ]
  refine wpAnyH_take (i := 2) (v := ?_) rfl (by kernel_rfl) (by kernel_rfl) (by kernel_rfl) (fun _ _ _ h => h) (Or.inl ⟨by rfl, ?_⟩) hHeld ?_
  rotate_left
  · intro wq hSw
    go_simp
    all_goals with_reducible rfl
  try simp only [Act.put, List.getElem_toArray, List.getElem_cons_succ, List.getElem_cons_zero, List.setIfInBounds_toArray, List.set_cons_zero, List.set_cons_succ]
  refine wpAnyH_take (i := 3) (v := ?_) rfl (by kernel_rfl) (by kernel_rfl) (by kernel_rfl) (fun _ _ _ h => h) (Or.inl ⟨by rfl, ?_⟩) hHeld ?_
  rotate_left
  · intro wq hSw
    have q0 := HX2.out wq hSw
    go_simp
    all_goals with_reducible rfl
  try simp only [Act.put, List.getElem_toArray, List.getElem_cons_succ, List.getElem_cons_zero, List.setIfInBounds_toArray, List.set_cons_zero, List.set_cons_succ]
  refine wpAnyH_take (i := 4) (v := ?_) rfl (by kernel_rfl) (by kernel_rfl) (by kernel_rfl) (fun _ _ _ h => h) (Or.inl ⟨by rfl, ?_⟩) hHeld ?_
  rotate_left
  · intro wq hSw
    go_simp
    all_goals with_reducible rfl
  try simp only [Act.put, List.getElem_toArray, List.getElem_cons_succ, List.getElem_cons_zero, List.setIfInBounds_toArray, List.set_cons_zero, List.set_cons_succ]
  refine wpAnyH_take (i := 5) (v := ?_) rfl (by kernel_rfl) (by kernel_rfl) (by kernel_rfl) (fun _ _ _ h => h) (Or.inl ⟨by rfl, ?_⟩) hHeld ?_
  rotate_left
  · intro wq hSw
    go_simp
    all_goals with_reducible rfl
  try simp only [Act.put, List.getElem_toArray, List.getElem_cons_succ, List.getElem_cons_zero, List.setIfInBounds_toArray, List.set_cons_zero, List.set_cons_succ]
  refine wpAnyH_take (i := 6) (v := ?_) rfl (by kernel_rfl) (by kernel_rfl) (by kernel_rfl) (fun _ _ _ h => h) (Or.inl ⟨by rfl, ?_⟩) hHeld ?_
  rotate_left
  · intro wq hSw
    go_simp
    all_goals with_reducible rfl
  try simp only [Act.put, List.getElem_toArray, List.getElem_cons_succ, List.getElem_cons_zero, List.setIfInBounds_toArray, List.set_cons_zero, List.set_cons_succ]
  refine wpAnyH_take (i := 8) (v := ?_) rfl (by kernel_rfl) (by kernel_rfl) (by kernel_rfl) (fun _ _ _ h => h) (Or.inl ⟨by rfl, ?_⟩) hHeld ?_
  rotate_left
  · intro wq hSw
    go_simp
    all_goals with_reducible rfl
  try simp only [Act.put, List.getElem_toArray, List.getElem_cons_succ, List.getElem_cons_zero, List.setIfInBounds_toArray, List.set_cons_zero, List.set_cons_succ]
  refine wpAnyH_take (i := 9) (v := ?_) rfl (by kernel_rfl) (by kernel_rfl) (by kernel_rfl) (fun _ _ _ h => h) (Or.inl ⟨by rfl, ?_⟩) hHeld ?_
  rotate_left
  · intro wq hSw
    go_simp
    all_goals with_reducible rfl
  try simp only [Act.put, List.getElem_toArray, List.getElem_cons_succ, List.getElem_cons_zero, List.setIfInBounds_toArray, List.set_cons_zero, List.set_cons_succ]
  refine wpAnyH_take (i := 10) (v := ?_) rfl (by kernel_rfl) (by kernel_rfl) (by kernel_rfl) (fun _ _ _ h => h) (Or.inl ⟨by rfl, ?_⟩) hHeld ?_
  rotate_left
  · intro wq hSw
    go_simp
    all_goals with_reducible rfl
  try simp only [Act.put, List.getElem_toArray, List.getElem_cons_succ, List.getElem_cons_zero, List.setIfInBounds_toArray, List.set_cons_zero, List.set_cons_succ]
  refine wpAnyH_take (i := 11) (v := ?_) rfl (by kernel_rfl) (by kernel_rfl) (by kernel_rfl) (fun _ _ _ h => h) (Or.inl ⟨by rfl, ?_⟩) hHeld ?_
  rotate_left
  · intro wq hSw
    have q0 := HX4.out wq hSw
    go_simp
    all_goals with_reducible rfl
  try simp only [Act.put, List.getElem_toArray, List.getElem_cons_succ, List.getElem_cons_zero, List.setIfInBounds_toArray, List.set_cons_zero, List.set_cons_succ]
  refine wpAnyH_take (i := 12) (v := ?_) rfl (by kernel_rfl) (by kernel_rfl) (by kernel_rfl) (fun _ _ _ h => h) (Or.inl ⟨by rfl, ?_⟩) hHeld ?_
  rotate_left
  · intro wq hSw
    go_simp
    all_goals with_reducible rfl
  try simp only [Act.put, List.getElem_toArray, List.getElem_cons_succ, List.getElem_cons_zero, List.setIfInBounds_toArray, List.set_cons_zero, List.set_cons_succ]
  refine wpAnyH_take (i := 13) (v := ?_) rfl (by kernel_rfl) (by kernel_rfl) (by kernel_rfl) (fun _ _ _ h => h) (Or.inl ⟨by rfl, ?_⟩) hHeld ?_
  rotate_left
  · intro wq hSw
    go_simp
    all_goals with_reducible rfl
  try simp only [Act.put, List.getElem_toArray, List.getElem_cons_succ, List.getElem_cons_zero, List.setIfInBounds_toArray, List.set_cons_zero, List.set_cons_succ]
  refine wpAnyH_take (i := 14) (v := ?_) rfl (by kernel_rfl) (by kernel_rfl) (by kernel_rfl) (fun _ _ _ h => h) (Or.inl ⟨by rfl, ?_⟩) hHeld ?_
  rotate_left
  · intro wq hSw
    have q0 := HXE.out wq hSw
    go_simp
    all_goals with_reducible rfl
  try simp only [Act.put, List.getElem_toArray, List.getElem_cons_succ, List.getElem_cons_zero, List.setIfInBounds_toArray, List.set_cons_zero, List.set_cons_succ]
  refine wpAnyH_take (i := 16) (v := ?_) rfl (by kernel_rfl) (by kernel_rfl) (by kernel_rfl) (fun _ _ _ h => h) (Or.inl ⟨by rfl, ?_⟩) hHeld ?_
  rotate_left
  · intro wq hSw
    go_simp
    all_goals with_reducible rfl
  try simp only [Act.put, List.getElem_toArray, List.getElem_cons_succ, List.getElem_cons_zero, List.setIfInBounds_toArray, List.set_cons_zero, List.set_cons_succ]
  refine wpAnyH_take (i := 17) (v := ?_) rfl (by kernel_rfl) (by kernel_rfl) (by kernel_rfl) (fun _ _ _ h => h) (Or.inl ⟨by rfl, ?_⟩) hHeld ?_
  rotate_left
  · intro wq hSw
    go_simp
    all_goals with_reducible rfl
  try simp only [Act.put, List.getElem_toArray, List.getElem_cons_succ, List.getElem_cons_zero, List.setIfInBounds_toArray, List.set_cons_zero, List.set_cons_succ]
  refine wpAnyH_take (i := 18) (v := ?_) rfl (by kernel_rfl) (by kernel_rfl) (by kernel_rfl) (fun _ _ _ h => h) (Or.inl ⟨by rfl, ?_⟩) hHeld ?_
  rotate_left
  · intro wq hSw
    go_simp
    all_goals with_reducible rfl
  try simp only [Act.put, List.getElem_toArray, List.getElem_cons_succ, List.getElem_cons_zero, List.setIfInBounds_toArray, List.set_cons_zero, List.set_cons_succ]
  refine wpAnyH_take (i := 19) (v := ?_) rfl (by kernel_rfl) (by kernel_rfl) (by kernel_rfl) (fun _ _ _ h => h) (Or.inl ⟨by rfl, ?_⟩) hHeld ?_
  rotate_left
  · intro wq hSw
    have q0 := HX0.out wq hSw
    go_simp
    all_goals with_reducible rfl
  try simp only [Act.put, List.getElem_toArray, List.getElem_cons_succ, List.getElem_cons_zero, List.setIfInBounds_toArray, List.set_cons_zero, List.set_cons_succ]
  refine wpAnyH_take (i := 20) (v := ?_) rfl (by kernel_rfl) (by kernel_rfl) (by kernel_rfl) (fun _ _ _ h => h) (Or.inl ⟨by rfl, ?_⟩) hHeld ?_
  rotate_left
  · intro wq hSw
    go_simp
    all_goals with_reducible rfl
  try simp only [Act.put, List.getElem_toArray, List.getElem_cons_succ, List.getElem_cons_zero, List.setIfInBounds_toArray, List.set_cons_zero, List.set_cons_succ]
  refine wpAnyH_take (i := 21) (v := ?_) rfl (by kernel_rfl) (by kernel_rfl) (by kernel_rfl) (fun _ _ _ h => h) (Or.inl ⟨by rfl, ?_⟩) hHeld ?_
  rotate_left
  · intro wq hSw
    go_simp
    all_goals with_reducible rfl
  try simp only [Act.put, List.getElem_toArray, List.getElem_cons_succ, List.getElem_cons_zero, List.setIfInBounds_toArray, List.set_cons_zero, List.set_cons_succ]
  refine wpAnyH_take (i := 22) (v := ?_) rfl (by kernel_rfl) (by kernel_rfl) (by kernel_rfl) (fun _ _ _ h => h) (Or.inl ⟨by rfl, ?_⟩) hHeld ?_
  rotate_left
  · intro wq hSw
    go_simp
    all_goals with_reducible rfl
  try simp only [Act.put, List.getElem_toArray, List.getElem_cons_succ, List.getElem_cons_zero, List.setIfInBounds_toArray, List.set_cons_zero, List.set_cons_succ]
  refine wpAnyH_take (i := 23) (v := ?_) rfl (by kernel_rfl) (by kernel_rfl) (by kernel_rfl) (fun _ _ _ h => h) (Or.inl ⟨by rfl, ?_⟩) hHeld ?_
  rotate_left
  · intro wq hSw
    have q0 := HX1.out wq hSw
    go_simp
    all_goals with_reducible rfl
  try simp only [Act.put, List.getElem_toArray, List.getElem_cons_succ, List.getElem_cons_zero, List.setIfInBounds_toArray, List.set_cons_zero, List.set_cons_succ]
  refine wpAnyH_ready (rs := [7]) (by kernel_rfl) (by simp) ?_
  refine AllReadyH.cons rfl (fun K hK => ?_) AllReadyH.nil
  go_simp
  refine (HST.out _ hHeld).mono ?_
  rintro e w2 ⟨rfl, rfl⟩
  refine hK.out _ _ hHeld (fun hHeld => ?_)
  clear hK K
  try simp only [Act.put, List.getElem_toArray, List.getElem_cons_succ, List.getElem_cons_zero, List.setIfInBounds_toArray, List.set_cons_zero, List.set_cons_succ]
  refine wpAnyH_take (i := 15) (v := ?_) rfl (by kernel_rfl) (by kernel_rfl) (by kernel_rfl) (fun _ _ _ h => h) (Or.inl ⟨by rfl, ?_⟩) hHeld ?_
  rotate_left
  · intro wq hSw
    go_simp
    all_goals with_reducible rfl
  try simp only [Act.put, List.getElem_toArray, List.getElem_cons_succ, List.getElem_cons_zero, List.setIfInBounds_toArray, List.set_cons_zero, List.set_cons_succ]
  refine wpAnyH_ready (rs := [24]) (by kernel_rfl) (by simp) ?_
  refine AllReadyH.cons rfl (fun K hK => ?_) AllReadyH.nil
  go_simp
  refine (HLA.out _ hHeld).mono ?_
  rintro e w3 ⟨A9, n9, c9, rfl, q1, q2, q3, q4⟩
  have HQ : Hid (SymAt w w3 A9 n9 c9 (layN g s r)) := SymAt.before ⟨q1, q2, q3, q4⟩ hHeld
  have hh : Keep w w3 := Keep.trans hHeld q4
  clear q1 q2 q3 q4
  refine hK.out _ _ hh (fun hHeld => ?_)
  clear hK K
  try simp only [Act.put, List.getElem_toArray, List.getElem_cons_succ, List.getElem_cons_zero, List.setIfInBounds_toArray, List.set_cons_zero, List.set_cons_succ]
  refine wpAnyH_take (i := 25) (v := ?_) rfl (by kernel_rfl) (by kernel_rfl) (by kernel_rfl) (fun _ _ _ h => h) (Or.inl ⟨by rfl, ?_⟩) hHeld ?_
  rotate_left
  · intro wq hSw
    go_simp
    all_goals with_reducible rfl
  try simp only [Act.put, List.getElem_toArray, List.getElem_cons_succ, List.getElem_cons_zero, List.setIfInBounds_toArray, List.set_cons_zero, List.set_cons_succ]
  refine wpAnyH_take (i := 26) (v := ?_) rfl (by kernel_rfl) (by kernel_rfl) (by kernel_rfl) (fun _ _ _ h => h) (Or.inl ⟨by rfl, ?_⟩) hHeld ?_
  rotate_left
  · intro wq hSw
    go_simp
    all_goals with_reducible rfl
  try simp only [Act.put, List.getElem_toArray, List.getElem_cons_succ, List.getElem_cons_zero, List.setIfInBounds_toArray, List.set_cons_zero, List.set_cons_succ]
  refine wpAnyH_take (i := 27) (v := ?_) rfl (by kernel_rfl) (by kernel_rfl) (by kernel_rfl) (fun _ _ _ h => h) (Or.inl ⟨by rfl, ?_⟩) hHeld ?_
  rotate_left
  · intro wq hSw
    go_simp
    all_goals with_reducible rfl
  try simp only [Act.put, List.getElem_toArray, List.getElem_cons_succ, List.getElem_cons_zero, List.setIfInBounds_toArray, List.set_cons_zero, List.set_cons_succ]
  refine wpAnyH_take (i := 28) (v := ?_) rfl (by kernel_rfl) (by kernel_rfl) (by kernel_rfl) (fun _ _ _ h => h) (Or.inl ⟨by rfl, ?_⟩) hHeld ?_
  rotate_left
  · intro wq hSw
    go_simp
    all_goals with_reducible rfl
  try simp only [Act.put, List.getElem_toArray, List.getElem_cons_succ, List.getElem_cons_zero, List.setIfInBounds_toArray, List.set_cons_zero, List.set_cons_succ]
  refine wpAnyH_take (i := 29) (v := ?_) rfl (by kernel_rfl) (by kernel_rfl) (by kernel_rfl) (fun _ _ _ h => h) (Or.inl ⟨by rfl, ?_⟩) hHeld ?_
  rotate_left
  · intro wq hSw
    go_simp
    all_goals with_reducible rfl
  try simp only [Act.put, List.getElem_toArray, List.getElem_cons_succ, List.getElem_cons_zero, List.setIfInBounds_toArray, List.set_cons_zero, List.set_cons_succ]
  refine wpAnyH_done (by kernel_rfl) ?_ _
  refine NoPanic.normal ?_
  clear hHeld
  clear HLA HST HX0 HX1 HX2 HX4 HXE sl
  go_wp2_with fail
  go_ret
  exact ⟨_, _, _, rfl, HQ.out⟩
end
end Go.Proofs.Ytcafofffgmaepaa
/- The landed source: the row of a generation by coefficients. -/
namespace Go.Proofs.Ytcafofffgmaepaa
open Go.RowKit
set_option linter.unusedVariables false
set_option linter.unusedSimpArgs false
theorem infoARow : (Try.prog.info? 56).map (·.size) = some 2 := by kernel_rfl
theorem combAt_more {R : List (List Nat)} {cs : List Nat} {m : Nat} (h1 : R.length = m) (h2 : cs.length = m) (x : List Nat) (c j : Nat) : vCombAt (R ++ [x]) (cs ++ [c]) (m + 1) j = vCombAt R cs m j ^^^ mulN (x.getD j 0) c := by
  rw [vCombAt, sumX]
  have e1 : (R ++ [x]).getD m [] = x := by rw [List.getD_eq_getElem?_getD, List.getElem?_append_right (by omega), h1, Nat.sub_self]; rfl
  have e2 : (cs ++ [c]).getD m 0 = c := by rw [List.getD_eq_getElem?_getD, List.getElem?_append_right (by omega), h2, Nat.sub_self]; rfl
  rw [e1, e2]
  congr 1
  exact sumX_congr fun i hi => by
    have e3 : (R ++ [x]).getD i [] = R.getD i [] := by rw [List.getD_eq_getElem?_getD, List.getElem?_append_left (by omega), ← List.getD_eq_getElem?_getD]
    have e4 : (cs ++ [c]).getD i 0 = cs.getD i 0 := by rw [List.getD_eq_getElem?_getD, List.getElem?_append_left (by omega), ← List.getD_eq_getElem?_getD]
    rw [e3, e4]
theorem Held.grown {w w' : World} {b : Nat} {v : Value} {t : TypeId} {row : Option Nat} (h : Held w b v t) (g : w.grownBy w' row) (hn : row ≠ some b) : Held w' b v t :=
  (Turned.of_grown (F := fun i => row = some i) g fun i e => e).block b (lt_of_block h) hn |>.trans h
theorem Held.bytes {w : World} {n x : Nat} {t : TypeId} (h : Held w n (.int .u8 (x : Int)) t) (hx : x < 256) : Bytes w w.heap.size (some ⟨n, 0, none⟩) 1 [x] :=
  ⟨rfl, fun y hy => by rw [List.mem_singleton.1 hy]; exact hx, fun _ => ⟨n, 0, rfl, lt_of_block h, fun i hi => by
    obtain rfl : i = 0 := by omega
    exact h.cell⟩⟩
/-- The lists that a row is made of: vectors and factors, each in a block of its own; the vectors' rows lie in blocks of Fr. -/
structure RowI2 (w5 : World) (V0 F0 : Nat) (Fr : Nat → Prop) (s : Nat) (wr : World) (m1 : Nat) (A1 : Option Addr) (c1 : Nat) (rs : List RowV) (m2 : Nat) (A2 : Option Addr) (c2 : Nat) (cs : List Nat) : Prop where
  own1 : OwnRows wr 0 22 A1 m1 c1 rs
  b1 : ∀ k, (Value.slice A1 m1 c1).ownBlock = some k → k = V0 ∨ w5.heap.size ≤ k
  own2 : Own wr 0 5 A2 m2 c2 cs
  b2 : ∀ k, (Value.slice A2 m2 c2).ownBlock = some k → k = F0 ∨ w5.heap.size ≤ k
  rows : ∀ r ∈ rs, LiesIn w5 Fr r ∧ r.n = s
  tn : Turned (fun x => x = V0 ∨ x = F0) w5 wr
section
variable {w5 wr w' : World} {V0 F0 : Nat} {Fr : Nat → Prop} {s m1 m2 : Nat} {A1 : Option Addr} {c1 : Nat} {A2 : Option Addr} {c2 : Nat} {rs : List RowV} {cs : List Nat}
namespace RowI2
theorem later (h : RowI2 w5 V0 F0 Fr s wr m1 A1 c1 rs m2 A2 c2 cs) (k : Keep wr w') : RowI2 w5 V0 F0 Fr s w' m1 A1 c1 rs m2 A2 c2 cs :=
  ⟨h.own1.keep k, h.b1, h.own2.keep k, h.b2, h.rows, h.tn.then_keep k⟩
theorem size (h : RowI2 w5 V0 F0 Fr s wr m1 A1 c1 rs m2 A2 c2 cs) : w5.heap.size ≤ wr.heap.size := h.tn.size
theorem ne (h : RowI2 w5 V0 F0 Fr s wr m1 A1 c1 rs m2 A2 c2 cs) : ∀ k, (Value.slice A2 m2 c2).ownBlock = some k → (Value.slice A1 m1 c1).ownBlock ≠ some k := fun k e e2 => by
  rcases blocks_apart h.own2 h.own1 (by decide) with h1 | h1
  · rw [e] at h1; cases h1
  · rw [e, e2] at h1; exact h1 rfl
theorem app1 (h : RowI2 w5 V0 F0 Fr s wr m1 A1 c1 rs m2 A2 c2 cs) {A' : Option Addr} {c' : Nat} {r : RowV} (ho : OwnRows w' 0 22 A' (m1 + 1) c' (rs ++ [r])) (g : wr.grownBy w' (Value.slice A1 m1 c1).ownBlock)
    (hb : (Value.slice A' (m1 + 1) c').ownBlock = (Value.slice A1 m1 c1).ownBlock ∨ (Value.slice A' (m1 + 1) c').ownBlock = some wr.heap.size) (hr : LiesIn w5 Fr r ∧ r.n = s) : RowI2 w5 V0 F0 Fr s w' (m1 + 1) A' c' (rs ++ [r]) m2 A2 c2 cs := by
  have t : Turned (fun i => (Value.slice A1 m1 c1).ownBlock = some i) wr w' := Turned.of_grown (F := fun i => (Value.slice A1 m1 c1).ownBlock = some i) g fun i e => e
  refine ⟨ho, fun k e => ?_, h.own2.turned t fun k e e2 => h.ne k e e2, h.b2, fun q hq => ?_, h.tn.trans t fun i e => (h.b1 i e).imp (fun e => Or.inl e) id⟩
  · rcases hb with hb | hb
    · exact h.b1 k (hb ▸ e)
    · rw [hb] at e; injection e with e; exact Or.inr (e ▸ h.size)
  · rcases List.mem_append.1 hq with hq | hq
    · exact h.rows q hq
    · rw [List.mem_singleton.1 hq]; exact hr
theorem app2 (h : RowI2 w5 V0 F0 Fr s wr m1 A1 c1 rs m2 A2 c2 cs) {A' : Option Addr} {c' x : Nat} (ho : Own w' 0 5 A' (m2 + 1) c' (cs ++ [x])) (g : wr.grownBy w' (Value.slice A2 m2 c2).ownBlock)
    (hb : (Value.slice A' (m2 + 1) c').ownBlock = (Value.slice A2 m2 c2).ownBlock ∨ (Value.slice A' (m2 + 1) c').ownBlock = some wr.heap.size) : RowI2 w5 V0 F0 Fr s w' m1 A1 c1 rs (m2 + 1) A' c' (cs ++ [x]) := by
  have t : Turned (fun i => (Value.slice A2 m2 c2).ownBlock = some i) wr w' := Turned.of_grown (F := fun i => (Value.slice A2 m2 c2).ownBlock = some i) g fun i e => e
  refine ⟨h.own1.turned t fun k e e2 => h.ne k e2 e, h.b1, ho, fun k e => ?_, h.rows, h.tn.trans t fun i e => (h.b2 i e).imp (fun e => Or.inr e) id⟩
  rcases hb with hb | hb
  · exact h.b2 k (hb ▸ e)
  · rw [hb] at e; injection e with e; exact Or.inr (e ▸ h.size)
theorem row1 (h : RowI2 w5 V0 F0 Fr s wr m1 A1 c1 rs m2 A2 c2 cs) : ∀ k, (Value.slice A1 m1 c1).ownBlock = some k → k < wr.heap.size := fun k hk => (World.ownsRow.lt h.own1 k hk).2
theorem row2 (h : RowI2 w5 V0 F0 Fr s wr m1 A1 c1 rs m2 A2 c2 cs) : ∀ k, (Value.slice A2 m2 c2).ownBlock = some k → k < wr.heap.size := fun k hk => (h.own2.1.lt k hk).2
/-- The rows as an argument. -/
theorem rowsAt (h : RowI2 w5 V0 F0 Fr s wr m1 A1 c1 rs m2 A2 c2 cs) (hF : ∀ x, Fr x → x ≠ V0 ∧ x ≠ F0 ∧ x < w5.heap.size) (hs : s ≤ 65535) : RowsAt wr wr.heap.size A1 m1 rs := h.own1.rows fun r hr => by
  obtain ⟨a, b⟩ := h.rows r hr
  have a2 := a.turned h.tn fun x hx e => by
    obtain ⟨h1, h2, _⟩ := hF x hx
    rcases e with e | e
    · exact h1 e
    · exact h2 e
  exact ⟨a2.bytes fun x hx => Nat.lt_of_lt_of_le (hF x hx).2.2 h.size, by omega, a.2.2.1⟩
end RowI2
/-- .. so many coefficients on. -/
structure RowI (w5 : World) (V0 F0 : Nat) (Fr : Nat → Prop) (s : Nat) (L : List (List Nat)) (D : List Nat) (wr : World) (k m : Nat) (A1 : Option Addr) (c1 : Nat) (rs : List RowV) (A2 : Option Addr) (c2 : Nat) (cs : List Nat) : Prop where
  two : RowI2 w5 V0 F0 Fr s wr m A1 c1 rs m A2 c2 cs
  pos : 0 < m
  le : m ≤ k + 1
  sum : ∀ j, vCombAt (rowsOf rs) cs m j = vCombAt L D k j
namespace RowI
variable {k m : Nat} {L : List (List Nat)} {D : List Nat}
theorem later (h : RowI w5 V0 F0 Fr s L D wr k m A1 c1 rs A2 c2 cs) (kp : Keep wr w') : RowI w5 V0 F0 Fr s L D w' k m A1 c1 rs A2 c2 cs := ⟨h.two.later kp, h.pos, h.le, h.sum⟩
theorem skip (h : RowI w5 V0 F0 Fr s L D wr k m A1 c1 rs A2 c2 cs) (hd : D.getD k 0 = 0) : RowI w5 V0 F0 Fr s L D wr (k + 1) m A1 c1 rs A2 c2 cs :=
  ⟨h.two, h.pos, by have := h.le; omega, fun j => by rw [h.sum j, vCombAt, vCombAt, sumX, hd, mul_zero_right, Nat.xor_zero]⟩
theorem next (h : RowI w5 V0 F0 Fr s L D wr k m A1 c1 rs A2 c2 cs) {A1' : Option Addr} {c1' : Nat} {A2' : Option Addr} {c2' y : Nat} {r : RowV} (h2 : RowI2 w5 V0 F0 Fr s w' (m + 1) A1' c1' (rs ++ [r]) (m + 1) A2' c2' (cs ++ [y])) (hr : L.getD k [] = r.xs) (hy : D.getD k 0 = y) : RowI w5 V0 F0 Fr s L D w' (k + 1) (m + 1) A1' c1' (rs ++ [r]) A2' c2' (cs ++ [y]) :=
  ⟨h2, by omega, by have := h.le; omega, fun j => by
    have e : rowsOf (rs ++ [r]) = rowsOf rs ++ [r.xs] := by simp [rowsOf]
    rw [e, combAt_more (by rw [rowsOf, List.length_map, h.two.own1.length]) h.two.own2.length, h.sum j, ← hr, ← hy]; rfl⟩
theorem comb (h : RowI w5 V0 F0 Fr s L D wr k m A1 c1 rs A2 c2 cs) : combOf s rs cs = vComb s L D k ∧ combErr s rs = 0 := by
  have hf : ∀ r ∈ rs, r.n = s := fun r hr => (h.two.rows r hr).2
  rw [combOf, combErr, if_pos hf, if_pos hf]
  refine ⟨?_, rfl⟩
  rw [h.two.own1.length]
  exact tab_congr fun j _ => h.sum j
theorem head (h : RowI w5 V0 F0 Fr s L D wr k m A1 c1 rs A2 c2 cs) : ∃ r0, rs[0]? = some r0 ∧ r0.n = s := by
  have hl := h.two.own1.length
  have hp := h.pos
  exact ⟨_, List.getElem?_eq_getElem (by omega), (h.two.rows _ (List.getElem_mem (by omega))).2⟩
end RowI
end
/-- What a call hands back that makes a row. -/
def NewAgg (w : World) (C P : List Nat) (e : Ending) (w' : World) : Prop :=
  ∃ A n c A' n' c', e = .returned (.agg #[.slice A n c, .slice A' n' c']) ∧ Own w' w.heap.size 5 A n c C ∧ Own w' w.heap.size 5 A' n' c' P ∧ Keep w w'
theorem OwnRows.lit1 (w : World) (t : TypeId) (r : RowV) : OwnRows (w.alloc (.cells #[r.val] t)) w.heap.size t (some ⟨w.heap.size, 0, none⟩) 1 1 [r] :=
  ⟨rfl, Or.inr ⟨w.heap.size, 1, #[r.val], rfl, Nat.le_refl _, heap_alloc_new w _, Nat.le_refl _, by unfold maxLen; omega, rfl, rfl⟩⟩
theorem OwnRows.lowerTo {w : World} {base base' n c : Nat} {e : TypeId} {A : Option Addr} {rs : List RowV} (h : OwnRows w base e A n c rs) (hb : base' ≤ base) : OwnRows w base' e A n c rs := by
  refine ⟨h.1, ?_⟩
  rcases h.2 with h1 | ⟨g, cap, cur, hv, hg, r⟩
  · exact Or.inl h1
  · exact Or.inr ⟨g, cap, cur, hv, by omega, r⟩
section
variable {w w' : World} {F G : Nat → Prop} {b g s : Nat} {xs cs : List Nat} {M : List (List Nat)} {cl : Bool}
/-- What stands ahead of the loop: the result's cell, a row of noughts, the vectors, the factors. -/
theorem row_start (w : World) (s : Nat) (hs : s ≤ 65535) (tR : TypeId) (u : Array Value) :
    ∃ w1, (((w.alloc (.cells u tR)).alloc (.cells (madeCells #[.int .u8 0] s) 5)).alloc (.cells #[.slice (some ⟨w.heap.size + 1, 0, none⟩) s s] 22)).alloc (.cells #[.int .u8 1] 5) = w1 ∧ w1.heap.size = w.heap.size + 4 ∧ Keep w w1 ∧ w1.heap[w.heap.size]? = some (.cells u tR (0, 0)) ∧
      OwnRows w1 0 22 (some ⟨w.heap.size + 2, 0, none⟩) 1 1 [⟨some ⟨w.heap.size + 1, 0, none⟩, s, s, List.replicate s 0⟩] ∧ Own w1 0 5 (some ⟨w.heap.size + 3, 0, none⟩) 1 1 [1] ∧ LiesIn w1 (fun x => x = w.heap.size + 1) ⟨some ⟨w.heap.size + 1, 0, none⟩, s, s, List.replicate s 0⟩ := by
  obtain ⟨wa, ha⟩ : ∃ wa, w.alloc (.cells u tR) = wa := ⟨_, rfl⟩
  obtain ⟨wb, hb⟩ : ∃ wb, wa.alloc (.cells (madeCells #[.int .u8 0] s) 5) = wb := ⟨_, rfl⟩
  obtain ⟨wc, hc⟩ : ∃ wc, wb.alloc (.cells #[.slice (some ⟨w.heap.size + 1, 0, none⟩) s s] 22) = wc := ⟨_, rfl⟩
  obtain ⟨wd, hd⟩ : ∃ wd, wc.alloc (.cells #[.int .u8 1] 5) = wd := ⟨_, rfl⟩
  have sa : wa.heap.size = w.heap.size + 1 := by rw [← ha]; simp
  have sb : wb.heap.size = w.heap.size + 2 := by rw [← hb]; simp [sa]
  have sc : wc.heap.size = w.heap.size + 3 := by rw [← hc]; simp [sb]
  have sd : wd.heap.size = w.heap.size + 4 := by rw [← hd]; simp [sc]
  have kb : Keep wb wc := by rw [← hc]; exact (Keep.refl _).alloc _ _
  have kc : Keep wc wd := by rw [← hd]; exact (Keep.refl _).alloc _ _
  have kab : Keep wa wb := by rw [← hb]; exact (Keep.refl _).alloc _ _
  have ka : Keep w wa := by rw [← ha]; exact (Keep.refl _).alloc _ _
  have oz : Own wb wa.heap.size 5 (some ⟨w.heap.size + 1, 0, none⟩) s s (List.replicate s 0) := by
    rw [← hb, ← sa]; exact Own.made wa 5 s (by omega)
  have o1 : OwnRows wc wb.heap.size 22 (some ⟨wb.heap.size, 0, none⟩) 1 1 [⟨some ⟨w.heap.size + 1, 0, none⟩, s, s, List.replicate s 0⟩] := by
    rw [← hc]; exact OwnRows.lit1 wb 22 ⟨some ⟨w.heap.size + 1, 0, none⟩, s, s, List.replicate s 0⟩
  have o2 : Own wd wc.heap.size 5 (some ⟨wc.heap.size, 0, none⟩) 1 1 [1] := by
    rw [← hd]; exact Own.lit wc 5 1 [1] #[.int .u8 1] rfl rfl (by decide) (by decide)
  rw [sb] at o1
  rw [sc] at o2
  refine ⟨wd, by rw [ha, hb, hc, hd], sd, ((ka.trans kab).trans kb).trans kc, ?_, (o1.keep kc).lowerTo (Nat.zero_le _), o2.lower (Nat.zero_le _), ?_⟩
  · rw [((kab.trans kb).trans kc).block w.heap.size (by omega), ← ha]; exact heap_alloc_new w _
  · refine (oz.keep (kb.trans kc)).lies.mono fun x hx => ?_
    have hx : some (w.heap.size + 1) = some x := hx
    injection hx with hx; exact hx.symm
set_option maxRecDepth 100000 in
set_option maxHeartbeats 8000000 in
theorem row_any {P : Nat} (h : SrcR w F b g s xs cs M cl) (hG : GoodS g s P xs cs M) (gen : Nat) (r : List Nat) (hr : M[gen]? = some r) (B5 c5 : Nat) (A5 : Option Addr) (D : List Nat) (hD : Bytes w B5 A5 g D) (hB : B5 ≤ w.heap.size) :
    Calls Try.prog 62 #[.pointer (some ⟨b, 0, none⟩), .int .u64 (gen : Int), .slice A5 g c5] w (NewAgg w D (vComb s (layN g s r) D g)) := by
  have hs1 := hG.size.s0
  have hs2 := hG.size.s1
  have hg2 := hG.size.g1
  have mk := fun w => run_make_bytes (P := Try.prog) Try.underlying22 info5 s (by omega) w
  obtain ⟨A1, n1, c1, A2, n2, c2, A3, n3, c3, ha⟩ := h
  obtain ⟨H, hH⟩ : ∃ H, w.heap.size = H := ⟨_, rfl⟩
  obtain ⟨w1, e1, z1, k1, box, o1, o2, lz⟩ := row_start w s hs2 56 #[.slice none 0 0, .slice none 0 0]
  have hx1 : ∀ wq, Keep w wq → wq.cell? ⟨b, 1, none⟩ = some (.int .i64 (s : Int)) := fun wq k => (ha.keep k).x1
  have wa1 := hx1 _ ((Keep.refl w).alloc #[.slice none 0 0, .slice none 0 0] 56)
  have HSY := Lib.hid (symbols_any (⟨_, _, _, _, _, _, _, _, _, ha.keep k1⟩ : SrcR w1 F b g s xs cs M cl) hG gen r hr)
  rw [hH] at z1 box o1 o2 lz
  have K1 := Lib.hid k1
  have Z1 := Lib.hid z1
  have BX := Lib.hid box
  have O1 := Lib.hid o1
  have O2 := Lib.hid o2
  have LZ := Lib.hid lz
  have HD := Lib.hid hD
  have HBB := Lib.hid hB
  have HHH := Lib.hid hH
  have E1 := Lib.hid e1
  have HLS : Hid (∀ L, layN g s r = L → ∀ q ∈ L, q.length = s) := fun L hL q hq => by
    obtain ⟨_, _, p1, p2⟩ := hG.piece hr
    have hlo := hG.size.lo
    rw [← hL, layN, cutsN] at hq
    obtain ⟨i, hi, rfl⟩ := List.mem_map.1 hq
    exact cutN_len (g := g) (allN_len (by rw [hG.size.eq]; omega)) (List.mem_range.1 hi)
  clear ha hG hx1 k1 z1 box o1 o2 lz hD hB hr
  rw [hH] at e1
  go_enter Try.func62, Try.ntmps62
  go_wp2_with fail
  refine HSY.out.mono ?_
  rintro e w5 ⟨As, ns, ks, rfl, hS⟩
  have hcnt := hS.count
  obtain ⟨L, hL⟩ : ∃ L, layN g s r = L := ⟨_, rfl⟩
  have hLl : L.length = g := by rw [← hL]; exact cutsN_len _ _ _
  have hLr : ∀ q ∈ L, q.length = s := HLS.out L hL
  rw [hL] at hcnt hS ⊢
  obtain rfl : g = ns := by omega
  obtain ⟨⟨rS, hrS, _, hxS⟩, _, _, k5⟩ := hS
  have K5 := Lib.hid k5
  obtain ⟨N5, hN5⟩ : ∃ N5, w5.heap.size = N5 := ⟨_, rfl⟩
  have HN5 := Lib.hid hN5
  have hz5 : H + 4 ≤ N5 := by have := k5.size; have := Z1.out; omega
  have HZ5 := Lib.hid hz5
  have RS := Lib.hid hrS
  have XS := Lib.hid hxS
  have LR := Lib.hid hLr
  have HLL := Lib.hid hLl
  have HFr : Hid (∀ x, (x = H + 1 ∨ (H + 4 ≤ x ∧ x < N5)) → x ≠ H + 2 ∧ x ≠ H + 3 ∧ x < w5.heap.size) := fun x hx => by
    have := HN5.out
    have := hz5
    omega
  have I0 : Hid (RowI w5 (H + 2) (H + 3) (fun x => x = H + 1 ∨ (H + 4 ≤ x ∧ x < N5)) s L D w5 0 1 (some ⟨H + 2, 0, none⟩) 1 [⟨some ⟨H + 1, 0, none⟩, s, s, List.replicate s 0⟩] (some ⟨H + 3, 0, none⟩) 1 [1]) := by
    refine ⟨⟨O1.out.keep k5, fun k hk => Or.inl (by have hk : some (H + 2) = some k := hk; injection hk with hk; exact hk.symm), O2.out.keep k5, fun k hk => Or.inl (by have hk : some (H + 3) = some k := hk; injection hk with hk; exact hk.symm), fun q hq => ?_, Turned.refl _ _⟩, by decide, by decide, fun j => ?_⟩
    · rw [List.mem_singleton.1 hq]
      exact ⟨(LZ.out.turned (Turned.of_keep (F := fun _ => False) k5) fun _ _ e => e).mono fun x hx => Or.inl hx, rfl⟩
    · show 0 ^^^ mulN ((List.replicate s 0).getD j 0) 1 = 0
      have e0 : (List.replicate s 0).getD j 0 = 0 := by
        rw [List.getD_eq_getElem?_getD, List.getElem?_replicate]
        split <;> rfl
      rw [e0, mul_zero_left]; rfl
  have HL0 := Lib.hid hL
  clear hcnt hL hLl hLr hrS hxS k5 hz5 hN5 O1 O2 LZ e1 E1 HSY wa1 mk
  go_wp2_with fail
  go_loopw [7, 8, 24] (fun u v i wr => ∃ (k m d1 d2 : Nat) (V1 V2 : Option Addr) (rs : List RowV) (cs : List Nat), k ≤ g ∧ i = .int .i64 k ∧ u = .slice V1 m d1 ∧ v = .slice V2 m d2 ∧ RowI w5 (H + 2) (H + 3) (fun x => x = H + 1 ∨ (H + 4 ≤ x ∧ x < N5)) s L D wr k m V1 d1 rs V2 d2 cs) (fun _ _ i _ => g - (intOf i).toNat)
  case atStart => exact ⟨0, 1, 1, 1, _, _, _, _, by omega, rfl, rfl, rfl, I0.out⟩
  case round =>
    obtain ⟨k, m, d1, d2, V1, V2, rs, cs, hk, rfl, rfl, rfl, hI⟩ := hrel
    have HI := Lib.hid hI
    have hm := hI.le
    have KW : Hid (Keep w wr) := hI.two.tn.keep (K1.out.trans K5.out) fun i e => by
      have := HHH.out
      rcases e with e | e <;> omega
    clear hI I0
    by_cases hlt : k < g
    · obtain ⟨bD, oD, rfl, hbD, hcD⟩ := (HD.out.keep HBB.out KW.out).at_ hlt
      have e1 : (0 : Int) ≤ (k : Int) := Int.natCast_nonneg _
      have e2 : (k : Int) < (g : Int) := by omega
      have hx := HD.out.all.getD k
      obtain ⟨b2, o2, q, rfl, hb2, hq, hc2, hq2⟩ := (RS.out.turned HI.out.two.tn fun x hx e => by
        have := Z1.out
        rcases e with e | e <;> omega).at_ hlt
      have hLq : L.getD k [] = q.xs := by
        rw [← XS.out, rowsXs, List.getD_eq_getElem?_getD, List.getElem?_map, hq]; rfl
      have hqs : q.n = s := by
        have h0 : q.xs ∈ L := by rw [← XS.out]; exact List.mem_map.2 ⟨q, List.mem_of_getElem? hq, rfl⟩
        rw [← LR.out _ h0]
        exact hq2.1.symm
      have hqF : LiesIn w5 (fun x => x = H + 1 ∨ (H + 4 ≤ x ∧ x < N5)) q := (RS.out.2.1 q (List.mem_of_getElem? hq)).mono fun x hx => Or.inr (by have := Z1.out; have := HN5.out; omega)
      obtain ⟨qA, qn, qc, qx⟩ := q
      obtain rfl : s = qn := hqs.symm
      have HQ := Lib.hid hqF
      have HLQ := Lib.hid hLq
      have hc2 : wr.cell? ⟨b2, o2 + k, none⟩ = some (.slice qA s qc) := hc2
      by_cases hz : D.getD k 0 = 0
      · have HZ := Lib.hid hz
        rw [hz] at hcD
        clear hz hx hqF hLq hq hq2
        go_wp2_with fail
        go_roundw
        case rel => exact ⟨k + 1, m, d1, d2, _, _, _, _, by omega, by go_num, rfl, rfl, HI.out.skip HZ.out⟩
        case measure => simp [intOf]; omega
      · obtain ⟨y, hy⟩ : ∃ y, D.getD k 0 = y := ⟨_, rfl⟩
        rw [hy] at hcD hz hx
        have HY := Lib.hid hy
        have b1 : ((y : Int) != 0) = true := by rw [bne_iff_ne]; omega
        have b0 : ¬ (y : Int) = 0 := by omega
        have HX := Lib.hid hx
        have HCD : Hid (∀ wq, Keep wr wq → wq.cell? ⟨bD, oD + k, none⟩ = some (.int .u8 (y : Int))) := fun wq kk => by
          rw [World.cell?_of_block (kk.block bD (World.block_lt_of_cell? wr _ hcD))]; exact hcD
        obtain ⟨wA, hwA⟩ : ∃ wA, World.drew wr = wA := ⟨_, rfl⟩
        have QA := Lib.hid (HI.out.two.later (show Keep wr wA by rw [← hwA]; exact Keep.drew (Keep.refl _)))
        have HWA := Lib.hid hwA
        have hm9 : m ≤ 1000 := by omega
        clear hy hz hqF hLq hq hq2 hx hwA
        go_wp2_with fail
        have hbDH : bD < H := by have := HBB.out; have := HHH.out; omega
        have HCW : Hid (∀ wq, Turned (fun x => H ≤ x) wr wq → wq.cell? ⟨bD, oD + k, none⟩ = some (.int .u8 (y : Int))) := fun wq t => t.cell (p := ⟨bD, oD + k, none⟩) hcD (by show ¬ H ≤ bD; omega)
        refine wp_region_noPanic ?_
        refine wp_region_held_drew (S := fun wz => wz.cell? ⟨bD, oD + k, none⟩ = some (.int .u8 (y : Int))) (by kernel_rfl) (by exact hcD) (fun hHeld => ?_)
        rw [HWA.out] at hHeld ⊢
        refine wpAnyH_take (i := 0) (v := ?_) rfl (by kernel_rfl) (by kernel_rfl) (by kernel_rfl) (fun _ _ _ h => h) (Or.inl ⟨by rfl, ?_⟩) hHeld ?_
        rotate_left
        · intro wq hSw
          go_simp
          all_goals with_reducible rfl
        try simp only [Act.put, List.getElem_toArray, List.getElem_cons_succ, List.getElem_cons_zero, List.setIfInBounds_toArray, List.set_cons_zero, List.set_cons_succ]
        refine wpAnyH_take (i := 1) (v := ?_) rfl (by kernel_rfl) (by kernel_rfl) (by kernel_rfl) (fun _ _ _ h => h) (Or.inl ⟨by rfl, ?_⟩) hHeld ?_
        rotate_left
        · intro wq hSw
          go_simp
          all_goals with_reducible rfl
        try simp only [Act.put, List.getElem_toArray, List.getElem_cons_succ, List.getElem_cons_zero, List.setIfInBounds_toArray, List.set_cons_zero, List.set_cons_succ]
        refine wpAnyH_take (i := 4) (v := ?_) rfl (by kernel_rfl) (by kernel_rfl) (by kernel_rfl) (fun _ _ _ h => h) (Or.inl ⟨by rfl, ?_⟩) hHeld ?_
        rotate_left
        · intro wq hSw
          go_simp
          all_goals with_reducible rfl
        try simp only [Act.put, List.getElem_toArray, List.getElem_cons_succ, List.getElem_cons_zero, List.setIfInBounds_toArray, List.set_cons_zero, List.set_cons_succ]
        refine wpAnyH_take (i := 5) (v := ?_) rfl (by kernel_rfl) (by kernel_rfl) (by kernel_rfl) (fun _ _ _ h => h) (Or.inl ⟨by rfl, ?_⟩) hHeld ?_
        rotate_left
        · intro wq hSw
          go_simp
          all_goals with_reducible rfl
        try simp only [Act.put, List.getElem_toArray, List.getElem_cons_succ, List.getElem_cons_zero, List.setIfInBounds_toArray, List.set_cons_zero, List.set_cons_succ]
        refine wpAnyH_take (i := 6) (v := ?_) rfl (by kernel_rfl) (by kernel_rfl) (by kernel_rfl) (fun _ _ _ h => h) (Or.inl ⟨by rfl, ?_⟩) hHeld ?_
        rotate_left
        · intro wq hSw
          go_simp
          all_goals with_reducible rfl
        try simp only [Act.put, List.getElem_toArray, List.getElem_cons_succ, List.getElem_cons_zero, List.setIfInBounds_toArray, List.set_cons_zero, List.set_cons_succ]
        refine wpAnyH_take (i := 7) (v := ?_) rfl (by kernel_rfl) (by kernel_rfl) (by kernel_rfl) (fun _ _ _ h => h) (Or.inl ⟨by rfl, ?_⟩) hHeld ?_
        rotate_left
        · intro wq hSw
          go_simp
          all_goals with_reducible rfl
        try simp only [Act.put, List.getElem_toArray, List.getElem_cons_succ, List.getElem_cons_zero, List.setIfInBounds_toArray, List.set_cons_zero, List.set_cons_succ]
        refine wpAnyH_take (i := 8) (v := ?_) rfl (by kernel_rfl) (by kernel_rfl) (by kernel_rfl) (fun _ _ _ h => h) (Or.inl ⟨by rfl, ?_⟩) hHeld ?_
        rotate_left
        · intro wq hSw
          have q0 := hSw
          go_simp
          all_goals with_reducible rfl
        try simp only [Act.put, List.getElem_toArray, List.getElem_cons_succ, List.getElem_cons_zero, List.setIfInBounds_toArray, List.set_cons_zero, List.set_cons_succ]
        have TA : Hid (Turned (fun x => H ≤ x) wr wA) := by show Turned _ _ _; rw [← HWA.out]; exact Turned.of_keep (Keep.drew (Keep.refl _))
        refine wpAnyH_ready (rs := [2, 9]) (by kernel_rfl) (by simp) ?_
        refine AllReadyH.cons rfl (fun K hK => ?_) (AllReadyH.cons rfl (fun K hK => ?_) AllReadyH.nil)
        · skip
          go_simp
          obtain ⟨nB2, hnB2⟩ : ∃ n, wA.heap.size = n := ⟨_, rfl⟩
          obtain ⟨wB1, hwB1⟩ : ∃ W, wA.alloc (.cells #[.slice qA s qc] 22) = W := ⟨_, rfl⟩
          have kwB1 : Keep wA wB1 := by rw [← hwB1]; exact (Keep.refl _).alloc _ _
          have RwB1 : Hid (Held wB1 nB2 (.slice qA s qc) 22) := by show Held _ _ _ _; rw [← hwB1]; exact Held.new hnB2 _ _
          have QwB1 := Lib.hid (QA.out.later kwB1)
          have LwB1 : Hid (nB2 < wB1.heap.size ∧ ∀ k, (Value.slice V1 m d1).ownBlock = some k → k ≠ nB2) := ⟨lt_of_block RwB1.out, fun k e => by have := QA.out.row1 k e; omega⟩
          have TwB1 : Hid (Turned (fun x => H ≤ x) wr wB1) := TA.out.then_keep kwB1
          clear kwB1 QA TA

          try rw [hwB1]
          try rw [hnB2]
          refine hK.out _ _ (HCW.out _ TwB1.out) (fun hHeld => ?_)
          clear hK K hwB1 hnB2
          try simp only [Act.put, List.getElem_toArray, List.getElem_cons_succ, List.getElem_cons_zero, List.setIfInBounds_toArray, List.set_cons_zero, List.set_cons_succ]
          refine wpAnyH_ready (rs := [3, 9]) (by kernel_rfl) (by simp) ?_
          refine AllReadyH.cons rfl (fun K hK => ?_) (AllReadyH.cons rfl (fun K hK => ?_) AllReadyH.nil)
          · skip
            refine wp_append_row _ _ 49 rfl ⟨qA, s, qc, qx⟩ Try.underlying49 infoRow rfl QwB1.out.own1 rfl RwB1.out.cell (by omega) (by omega) ?_
            intro AD4 cD5 wD3 hwD3 gwD3 rwD3
            have QwD3 := Lib.hid (QwB1.out.app1 hwD3 gwD3 rwD3 ⟨HQ.out, rfl⟩)
            have TwD3 : Hid (Turned (fun x => H ≤ x) wr wD3) := TwB1.out.trans (Turned.of_grown (F := fun i => (Value.slice V1 m d1).ownBlock = some i) gwD3 fun i e => e) fun i e => by
              have h1 := QwB1.out.b1 i e
              have h2 := HN5.out
              have h3 := HZ5.out
              left
              show H ≤ i
              omega
            clear hwD3 gwD3 rwD3 QwB1 TwB1
            refine hK.out _ _ (HCW.out _ TwD3.out) (fun hHeld => ?_)
            clear hK K
            try simp only [Act.put, List.getElem_toArray, List.getElem_cons_succ, List.getElem_cons_zero, List.setIfInBounds_toArray, List.set_cons_zero, List.set_cons_succ]
            refine wpAnyH_ready (rs := [9]) (by kernel_rfl) (by simp) ?_
            refine AllReadyH.cons rfl (fun K hK => ?_) AllReadyH.nil
            go_simp
            obtain ⟨nC7, hnC7⟩ : ∃ n, wD3.heap.size = n := ⟨_, rfl⟩
            obtain ⟨wC6, hwC6⟩ : ∃ W, wD3.alloc (.cells #[.int .u8 (y : Int)] 5) = W := ⟨_, rfl⟩
            have kwC6 : Keep wD3 wC6 := by rw [← hwC6]; exact (Keep.refl _).alloc _ _
            have YwC6 : Hid (Held wC6 nC7 (.int .u8 (y : Int)) 5) := by show Held _ _ _ _; rw [← hwC6]; exact Held.new hnC7 _ _
            have QwC6 := Lib.hid (QwD3.out.later kwC6)
            have MwC6 : Hid (∀ k, (Value.slice AD4 (m + 1) cD5).ownBlock = some k → k ≠ nC7) := fun k e => by have := QwD3.out.row1 k e; omega
            have TwC6 : Hid (Turned (fun x => H ≤ x) wr wC6) := TwD3.out.then_keep kwC6
            clear kwC6 QwD3 TwD3
            try rw [hwC6]
            try rw [hnC7]
            refine hK.out _ _ (HCW.out _ TwC6.out) (fun hHeld => ?_)
            clear hK K hwC6 hnC7
            try simp only [Act.put, List.getElem_toArray, List.getElem_cons_succ, List.getElem_cons_zero, List.setIfInBounds_toArray, List.set_cons_zero, List.set_cons_succ]
            refine wpAnyH_ready (rs := [10]) (by kernel_rfl) (by simp) ?_
            refine AllReadyH.cons rfl (fun K hK => ?_) AllReadyH.nil
            refine wp_append_bytes _ _ 22 rfl Try.underlying22 info5 rfl QwC6.out.own2 rfl (YwC6.out.bytes HX.out) (by omega) (by omega) ?_
            intro AE9 cE10 wE8 hwE8 gwE8 rwE8
            have QwE8 := Lib.hid (QwC6.out.app2 hwE8 gwE8 rwE8)
            have TwE8 : Hid (Turned (fun x => H ≤ x) wr wE8) := TwC6.out.trans (Turned.of_grown (F := fun i => (Value.slice V2 m d2).ownBlock = some i) gwE8 fun i e => e) fun i e => by
              have h1 := QwC6.out.b2 i e
              have h2 := HN5.out
              have h3 := HZ5.out
              left
              show H ≤ i
              omega
            clear hwE8 gwE8 rwE8 TwC6
            refine hK.out _ _ (HCW.out _ TwE8.out) (fun hHeld => ?_)
            clear hK K
            try simp only [Act.put, List.getElem_toArray, List.getElem_cons_succ, List.getElem_cons_zero, List.setIfInBounds_toArray, List.set_cons_zero, List.set_cons_succ]
            refine wpAnyH_take (i := 11) (v := ?_) rfl (by kernel_rfl) (by kernel_rfl) (by kernel_rfl) (fun _ _ _ h => h) (Or.inl ⟨by rfl, ?_⟩) hHeld ?_
            rotate_left
            · intro wq hSw
              go_simp
              all_goals with_reducible rfl
            try simp only [Act.put, List.getElem_toArray, List.getElem_cons_succ, List.getElem_cons_zero, List.setIfInBounds_toArray, List.set_cons_zero, List.set_cons_succ]
            refine wpAnyH_take (i := 12) (v := ?_) rfl (by kernel_rfl) (by kernel_rfl) (by kernel_rfl) (fun _ _ _ h => h) (Or.inl ⟨by rfl, ?_⟩) hHeld ?_
            rotate_left
            · intro wq hSw
              go_simp
              all_goals with_reducible rfl
            try simp only [Act.put, List.getElem_toArray, List.getElem_cons_succ, List.getElem_cons_zero, List.setIfInBounds_toArray, List.set_cons_zero, List.set_cons_succ]
            refine wpAnyH_done (by kernel_rfl) ?_ _
            refine NoPanic.normal ?_
            clear hHeld
            have NI := Lib.hid (HI.out.next QwE8.out HLQ.out HY.out)
            go_wp2_with fail
            go_roundw
            case rel => exact ⟨k + 1, m + 1, cD5, cE10, AD4, AE9, _, _, by omega, by go_num, rfl, rfl, NI.out⟩
            case measure => simp [intOf]; omega
          · skip
            go_simp
            obtain ⟨nC12, hnC12⟩ : ∃ n, wB1.heap.size = n := ⟨_, rfl⟩
            obtain ⟨wC11, hwC11⟩ : ∃ W, wB1.alloc (.cells #[.int .u8 (y : Int)] 5) = W := ⟨_, rfl⟩
            have kwC11 : Keep wB1 wC11 := by rw [← hwC11]; exact (Keep.refl _).alloc _ _
            have YwC11 : Hid (Held wC11 nC12 (.int .u8 (y : Int)) 5) := by show Held _ _ _ _; rw [← hwC11]; exact Held.new hnC12 _ _
            have QwC11 := Lib.hid (QwB1.out.later kwC11)
            have MwC11 : Hid (∀ k, (Value.slice V1 m d1).ownBlock = some k → k ≠ nC12) := fun k e => by have := QwB1.out.row1 k e; omega
            have RwC11 := Lib.hid (RwB1.out.keep kwC11)
            have TwC11 : Hid (Turned (fun x => H ≤ x) wr wC11) := TwB1.out.then_keep kwC11
            clear kwC11 QwB1 TwB1
            try rw [hwC11]
            try rw [hnC12]
            refine hK.out _ _ (HCW.out _ TwC11.out) (fun hHeld => ?_)
            clear hK K hwC11 hnC12
            try simp only [Act.put, List.getElem_toArray, List.getElem_cons_succ, List.getElem_cons_zero, List.setIfInBounds_toArray, List.set_cons_zero, List.set_cons_succ]
            refine wpAnyH_ready (rs := [3]) (by kernel_rfl) (by simp) ?_
            refine AllReadyH.cons rfl (fun K hK => ?_) AllReadyH.nil
            refine wp_append_row _ _ 49 rfl ⟨qA, s, qc, qx⟩ Try.underlying49 infoRow rfl QwC11.out.own1 rfl RwC11.out.cell (by omega) (by omega) ?_
            intro AD14 cD15 wD13 hwD13 gwD13 rwD13
            have QwD13 := Lib.hid (QwC11.out.app1 hwD13 gwD13 rwD13 ⟨HQ.out, rfl⟩)
            have TwD13 : Hid (Turned (fun x => H ≤ x) wr wD13) := TwC11.out.trans (Turned.of_grown (F := fun i => (Value.slice V1 m d1).ownBlock = some i) gwD13 fun i e => e) fun i e => by
              have h1 := QwC11.out.b1 i e
              have h2 := HN5.out
              have h3 := HZ5.out
              left
              show H ≤ i
              omega
            have YwD13 := Lib.hid (YwC11.out.grown gwD13 fun e => MwC11.out _ e rfl)
            clear hwD13 gwD13 rwD13 QwC11 TwC11
            refine hK.out _ _ (HCW.out _ TwD13.out) (fun hHeld => ?_)
            clear hK K
            try simp only [Act.put, List.getElem_toArray, List.getElem_cons_succ, List.getElem_cons_zero, List.setIfInBounds_toArray, List.set_cons_zero, List.set_cons_succ]
            refine wpAnyH_ready (rs := [10]) (by kernel_rfl) (by simp) ?_
            refine AllReadyH.cons rfl (fun K hK => ?_) AllReadyH.nil
            refine wp_append_bytes _ _ 22 rfl Try.underlying22 info5 rfl QwD13.out.own2 rfl (YwD13.out.bytes HX.out) (by omega) (by omega) ?_
            intro AE17 cE18 wE16 hwE16 gwE16 rwE16
            have QwE16 := Lib.hid (QwD13.out.app2 hwE16 gwE16 rwE16)
            have TwE16 : Hid (Turned (fun x => H ≤ x) wr wE16) := TwD13.out.trans (Turned.of_grown (F := fun i => (Value.slice V2 m d2).ownBlock = some i) gwE16 fun i e => e) fun i e => by
              have h1 := QwD13.out.b2 i e
              have h2 := HN5.out
              have h3 := HZ5.out
              left
              show H ≤ i
              omega
            clear hwE16 gwE16 rwE16 TwD13
            refine hK.out _ _ (HCW.out _ TwE16.out) (fun hHeld => ?_)
            clear hK K
            try simp only [Act.put, List.getElem_toArray, List.getElem_cons_succ, List.getElem_cons_zero, List.setIfInBounds_toArray, List.set_cons_zero, List.set_cons_succ]
            refine wpAnyH_take (i := 11) (v := ?_) rfl (by kernel_rfl) (by kernel_rfl) (by kernel_rfl) (fun _ _ _ h => h) (Or.inl ⟨by rfl, ?_⟩) hHeld ?_
            rotate_left
            · intro wq hSw
              go_simp
              all_goals with_reducible rfl
            try simp only [Act.put, List.getElem_toArray, List.getElem_cons_succ, List.getElem_cons_zero, List.setIfInBounds_toArray, List.set_cons_zero, List.set_cons_succ]
            refine wpAnyH_take (i := 12) (v := ?_) rfl (by kernel_rfl) (by kernel_rfl) (by kernel_rfl) (fun _ _ _ h => h) (Or.inl ⟨by rfl, ?_⟩) hHeld ?_
            rotate_left
            · intro wq hSw
              go_simp
              all_goals with_reducible rfl
            try simp only [Act.put, List.getElem_toArray, List.getElem_cons_succ, List.getElem_cons_zero, List.setIfInBounds_toArray, List.set_cons_zero, List.set_cons_succ]
            refine wpAnyH_done (by kernel_rfl) ?_ _
            refine NoPanic.normal ?_
            clear hHeld
            have NI := Lib.hid (HI.out.next QwE16.out HLQ.out HY.out)
            go_wp2_with fail
            go_roundw
            case rel => exact ⟨k + 1, m + 1, cD15, cE18, AD14, AE17, _, _, by omega, by go_num, rfl, rfl, NI.out⟩
            case measure => simp [intOf]; omega
        · skip
          go_simp
          obtain ⟨nC20, hnC20⟩ : ∃ n, wA.heap.size = n := ⟨_, rfl⟩
          obtain ⟨wC19, hwC19⟩ : ∃ W, wA.alloc (.cells #[.int .u8 (y : Int)] 5) = W := ⟨_, rfl⟩
          have kwC19 : Keep wA wC19 := by rw [← hwC19]; exact (Keep.refl _).alloc _ _
          have YwC19 : Hid (Held wC19 nC20 (.int .u8 (y : Int)) 5) := by show Held _ _ _ _; rw [← hwC19]; exact Held.new hnC20 _ _
          have QwC19 := Lib.hid (QA.out.later kwC19)
          have MwC19 : Hid (∀ k, (Value.slice V1 m d1).ownBlock = some k → k ≠ nC20) := fun k e => by have := QA.out.row1 k e; omega
          have TwC19 : Hid (Turned (fun x => H ≤ x) wr wC19) := TA.out.then_keep kwC19
          clear kwC19 QA TA
          try rw [hwC19]
          try rw [hnC20]
          refine hK.out _ _ (HCW.out _ TwC19.out) (fun hHeld => ?_)
          clear hK K hwC19 hnC20
          try simp only [Act.put, List.getElem_toArray, List.getElem_cons_succ, List.getElem_cons_zero, List.setIfInBounds_toArray, List.set_cons_zero, List.set_cons_succ]
          refine wpAnyH_ready (rs := [2]) (by kernel_rfl) (by simp) ?_
          refine AllReadyH.cons rfl (fun K hK => ?_) AllReadyH.nil
          go_simp
          obtain ⟨nB22, hnB22⟩ : ∃ n, wC19.heap.size = n := ⟨_, rfl⟩
          obtain ⟨wB21, hwB21⟩ : ∃ W, wC19.alloc (.cells #[.slice qA s qc] 22) = W := ⟨_, rfl⟩
          have kwB21 : Keep wC19 wB21 := by rw [← hwB21]; exact (Keep.refl _).alloc _ _
          have RwB21 : Hid (Held wB21 nB22 (.slice qA s qc) 22) := by show Held _ _ _ _; rw [← hwB21]; exact Held.new hnB22 _ _
          have QwB21 := Lib.hid (QwC19.out.later kwB21)
          have LwB21 : Hid (nB22 < wB21.heap.size ∧ ∀ k, (Value.slice V1 m d1).ownBlock = some k → k ≠ nB22) := ⟨lt_of_block RwB21.out, fun k e => by have := QwC19.out.row1 k e; omega⟩
          have YwB21 := Lib.hid (YwC19.out.keep kwB21)
          have TwB21 : Hid (Turned (fun x => H ≤ x) wr wB21) := TwC19.out.then_keep kwB21
          clear kwB21 QwC19 TwC19

          try rw [hwB21]
          try rw [hnB22]
          refine hK.out _ _ (HCW.out _ TwB21.out) (fun hHeld => ?_)
          clear hK K hwB21 hnB22
          try simp only [Act.put, List.getElem_toArray, List.getElem_cons_succ, List.getElem_cons_zero, List.setIfInBounds_toArray, List.set_cons_zero, List.set_cons_succ]
          refine wpAnyH_ready (rs := [3]) (by kernel_rfl) (by simp) ?_
          refine AllReadyH.cons rfl (fun K hK => ?_) AllReadyH.nil
          refine wp_append_row _ _ 49 rfl ⟨qA, s, qc, qx⟩ Try.underlying49 infoRow rfl QwB21.out.own1 rfl RwB21.out.cell (by omega) (by omega) ?_
          intro AD24 cD25 wD23 hwD23 gwD23 rwD23
          have QwD23 := Lib.hid (QwB21.out.app1 hwD23 gwD23 rwD23 ⟨HQ.out, rfl⟩)
          have TwD23 : Hid (Turned (fun x => H ≤ x) wr wD23) := TwB21.out.trans (Turned.of_grown (F := fun i => (Value.slice V1 m d1).ownBlock = some i) gwD23 fun i e => e) fun i e => by
            have h1 := QwB21.out.b1 i e
            have h2 := HN5.out
            have h3 := HZ5.out
            left
            show H ≤ i
            omega
          have YwD23 := Lib.hid (YwB21.out.grown gwD23 fun e => MwC19.out _ e rfl)
          clear hwD23 gwD23 rwD23 QwB21 TwB21
          refine hK.out _ _ (HCW.out _ TwD23.out) (fun hHeld => ?_)
          clear hK K
          try simp only [Act.put, List.getElem_toArray, List.getElem_cons_succ, List.getElem_cons_zero, List.setIfInBounds_toArray, List.set_cons_zero, List.set_cons_succ]
          refine wpAnyH_ready (rs := [10]) (by kernel_rfl) (by simp) ?_
          refine AllReadyH.cons rfl (fun K hK => ?_) AllReadyH.nil
          refine wp_append_bytes _ _ 22 rfl Try.underlying22 info5 rfl QwD23.out.own2 rfl (YwD23.out.bytes HX.out) (by omega) (by omega) ?_
          intro AE27 cE28 wE26 hwE26 gwE26 rwE26
          have QwE26 := Lib.hid (QwD23.out.app2 hwE26 gwE26 rwE26)
          have TwE26 : Hid (Turned (fun x => H ≤ x) wr wE26) := TwD23.out.trans (Turned.of_grown (F := fun i => (Value.slice V2 m d2).ownBlock = some i) gwE26 fun i e => e) fun i e => by
            have h1 := QwD23.out.b2 i e
            have h2 := HN5.out
            have h3 := HZ5.out
            left
            show H ≤ i
            omega
          clear hwE26 gwE26 rwE26 TwD23
          refine hK.out _ _ (HCW.out _ TwE26.out) (fun hHeld => ?_)
          clear hK K
          try simp only [Act.put, List.getElem_toArray, List.getElem_cons_succ, List.getElem_cons_zero, List.setIfInBounds_toArray, List.set_cons_zero, List.set_cons_succ]
          refine wpAnyH_take (i := 11) (v := ?_) rfl (by kernel_rfl) (by kernel_rfl) (by kernel_rfl) (fun _ _ _ h => h) (Or.inl ⟨by rfl, ?_⟩) hHeld ?_
          rotate_left
          · intro wq hSw
            go_simp
            all_goals with_reducible rfl
          try simp only [Act.put, List.getElem_toArray, List.getElem_cons_succ, List.getElem_cons_zero, List.setIfInBounds_toArray, List.set_cons_zero, List.set_cons_succ]
          refine wpAnyH_take (i := 12) (v := ?_) rfl (by kernel_rfl) (by kernel_rfl) (by kernel_rfl) (fun _ _ _ h => h) (Or.inl ⟨by rfl, ?_⟩) hHeld ?_
          rotate_left
          · intro wq hSw
            go_simp
            all_goals with_reducible rfl
          try simp only [Act.put, List.getElem_toArray, List.getElem_cons_succ, List.getElem_cons_zero, List.setIfInBounds_toArray, List.set_cons_zero, List.set_cons_succ]
          refine wpAnyH_done (by kernel_rfl) ?_ _
          refine NoPanic.normal ?_
          clear hHeld
          have NI := Lib.hid (HI.out.next QwE26.out HLQ.out HY.out)
          go_wp2_with fail
          go_roundw
          case rel => exact ⟨k + 1, m + 1, cD25, cE28, AD24, AE27, _, _, by omega, by go_num, rfl, rfl, NI.out⟩
          case measure => simp [intOf]; omega
    · obtain rfl : k = g := by omega
      obtain ⟨r0, hr0, hrn⟩ := HI.out.head
      have HC := Lib.hid HI.out.comb
      have hvc := vcomb_any _ _ m d1 d2 V1 V2 rs cs wr (HI.out.two.rowsAt HFr.out hs2) HI.out.two.own2.bytes (Nat.le_refl _) (Nat.le_refl _) (by have := HI.out.pos; omega) (by omega) r0 hr0
      rw [hrn, HC.out.1, HC.out.2] at hvc
      have HV := Lib.hid hvc
      clear hvc hr0 hrn
      go_wp2_with fail
      refine HV.out.mono ?_
      rintro e w6 ⟨A6, n6, c6, rfl, o6, k6⟩
      have O6 := Lib.hid o6
      have K6 := Lib.hid k6
      clear o6 k6
      go_wp2_with fail
      refine (clone_any B5 k c5 A5 D w6 (HD.out.keep HBB.out (KW.out.trans K6.out)) (by have := (KW.out.trans K6.out).size; have := HBB.out; omega) (by omega)).mono ?_
      rintro e w7 ⟨A7, n7, c7, rfl, o7, k7⟩
      have O7 := Lib.hid o7
      have K7 := Lib.hid k7
      have B7 : Hid (w7.heap[H]? = some (.cells #[.slice none 0 0, .slice none 0 0] 56 (0, 0))) := by
        show _ = _
        have hz := Z1.out
        rw [k7.block H (by have := K6.out.size; have := KW.out.size; have := HI.out.two.size; have := HN5.out; have := HZ5.out; omega), K6.out.block H (by have := HI.out.two.size; have := HN5.out; have := HZ5.out; omega), HI.out.two.tn.block H (by have := HN5.out; have := HZ5.out; omega) (by omega), K5.out.block H (by omega)]
        exact BX.out
      clear o7 k7
      have p7 : Pair2 w7 H (.slice none 0 0) (.slice none 0 0) 56 := B7.out
      have x0 := p7.cell0
      have x1 := p7.cell1
      have f0 := p7.free 0
      have f1 := p7.free 1
      have p8 := p7.put0 (x := .slice A7 n7 c7)
      have y1 := p8.cell1
      have g1 := p8.free 1
      have p9 := p8.put1 (x := .slice A6 n6 c6)
      clear p7 p8 B7
      have K9 : Hid (Keep w ((w7.setCell ⟨H, 0, none⟩ (.slice A7 n7 c7)).setCell ⟨H, 1, none⟩ (.slice A6 n6 c6))) := (((KW.out.trans K6.out).trans K7.out).setCell (a := ⟨H, 0, none⟩) (by have := HHH.out; show _ ≤ H; omega) _).setCell (a := ⟨H, 1, none⟩) (by have := HHH.out; show _ ≤ H; omega) _
      have t9 : Turned (fun i => i = H) w7 ((w7.setCell ⟨H, 0, none⟩ (.slice A7 n7 c7)).setCell ⟨H, 1, none⟩ (.slice A6 n6 c6)) := (Turned.set (F := fun i => i = H) w7 ⟨H, 0, none⟩ _ rfl).trans (Turned.set (F := fun i => i = H) _ ⟨H, 1, none⟩ _ rfl) fun i e => Or.inl e
      have hlo : w.heap.size = H ∧ H < wr.heap.size ∧ wr.heap.size ≤ w6.heap.size := by
        have := HHH.out; have := HI.out.two.size; have := HN5.out; have := HZ5.out; have := K6.out.size
        exact ⟨by omega, by omega, by omega⟩
      have P7 : Hid (Own ((w7.setCell ⟨H, 0, none⟩ (.slice A7 n7 c7)).setCell ⟨H, 1, none⟩ (.slice A6 n6 c6)) w.heap.size 5 A7 n7 c7 D) := (O7.out.turned t9 fun i e e2 => by have := (O7.out.blt i e).1; omega).lower (by omega)
      have P6 : Hid (Own ((w7.setCell ⟨H, 0, none⟩ (.slice A7 n7 c7)).setCell ⟨H, 1, none⟩ (.slice A6 n6 c6)) w.heap.size 5 A6 n6 c6 (vComb s L D k)) := ((O6.out.keep K7.out).turned t9 fun i e e2 => by have := (O6.out.blt i e).1; omega).lower (by omega)
      clear t9 hlo
      go_wp2_with fail
      refine bodyPost_ret (results_cell_row (p := 6) (ty := 56) rfl _ _ H 56 _ (0, 0) _ rfl p9 Try.underlying56 rfl infoARow) rfl ?_
      exact ⟨A7, n7, c7, A6, n6, c6, rfl, P7.out, by rw [HL0.out]; exact P6.out, K9.out⟩
end
end Go.Proofs.Ytcafofffgmaepaa
/- The landed source: Symbols, Row, Send, Stream, Cuts. -/
namespace Go.Proofs.Ytcafofffgmaepaa
open Go.RowKit
set_option linter.unusedVariables false
set_option linter.unusedSimpArgs false
theorem results_cell_and {P : Program} {fn : Func} {p u : Tmp} {ty : TypeId} (h : fn.results = #[.cell p ty, .tmp u]) (tmps : Array Value) (w : World) (g : Nat) (t : TypeId) (cs : Array Value) (fr : Nat × Nat) (d : TypeDesc)
    (hp : tmps.getD p undef = .pointer (some ⟨g, 0, none⟩)) (hg : w.heap[g]? = some (.cells cs t fr))
    (hu : P.underlying ty = some d) (hd : (match d with | .struct _ | .array _ _ => true | _ => false) = true) (hi : (P.info? ty).map (·.size) = some cs.size) :
    (results fn tmps).run P w = .ok (.tuple #[.agg cs, tmps.getD u undef]) w := by
  have hp' : tmps[p]?.getD undef = .pointer (some ⟨g, 0, none⟩) := by simpa using hp
  simp [results, h, hp', asAddr, run_loadVar_row w g t ty cs fr d hg hu hd hi]
theorem least64 (a b m : Nat) (B : Int) (hB : B = (b : Int)) (h : min a b = m) (w : World) : (Builtin.min_ #[41, 41] 41 #[.int .u64 (a : Int), .int .u64 B]).run Try.prog w = .ok (.int .u64 (m : Int)) w := by
  subst hB
  rw [run_min_int2]; congr 2; split <;> omega
def symE (M : List (List Nat)) (gen : Nat) : Int := if M.length ≤ gen then 23 else 0
def symL (g s : Nat) (M : List (List Nat)) (gen : Nat) : List (List Nat) := if M.length ≤ gen then [] else layN g s (M.getD gen [])
def rowE (g : Nat) (M : List (List Nat)) (gen n : Nat) : Int := if M.length ≤ gen then 23 else if n = g then 0 else 21
def rowC (g : Nat) (M : List (List Nat)) (gen : Nat) (D : List Nat) : List Nat := if rowE g M gen D.length = 0 then D else []
def rowP (g s : Nat) (M : List (List Nat)) (gen : Nat) (D : List Nat) : List Nat := if rowE g M gen D.length = 0 then vComb s (layN g s (M.getD gen [])) D g else []
/-- The coefficients that are sent when so many were. -/
def sendN (g sent : Nat) (D : List Nat) : List Nat := if sent < g then vUnit g sent else coefN g (sent % g) D
theorem sendN_len (g sent : Nat) (D : List Nat) : (sendN g sent D).length = g := by
  unfold sendN; split
  · exact vUnit_len _ _
  · exact coefN_len _ _ _
def sendC (g : Nat) (M : List (List Nat)) (gen sent : Nat) (D : List Nat) : List Nat := if symE M gen = 0 then sendN g sent D else []
def sendP (g s : Nat) (M : List (List Nat)) (gen sent : Nat) (D : List Nat) : List Nat := if symE M gen = 0 then vComb s (layN g s (M.getD gen [])) (sendN g sent D) g else []
def NewRow (w : World) (C P : List Nat) (er : Int) (e : Ending) (w' : World) : Prop :=
  ∃ A n c A' n' c', e = .returned (.tuple #[.agg #[.slice A n c, .slice A' n' c'], .int .i64 er]) ∧ Own w' w.heap.size 5 A n c C ∧ Own w' w.heap.size 5 A' n' c' P ∧ Keep w w'
section
variable {w w' : World} {F G : Nat → Prop} {b g s : Nat} {xs cs : List Nat} {M : List (List Nat)} {cl : Bool}
set_option maxHeartbeats 2000000 in
theorem scoefs_any {P : Nat} (h : SrcR w F b g s xs cs M cl) (hz : SizeS g s P) (sent : Nat) (hs : sent < 18446744073709551616) (B5 n5 c5 : Nat) (A5 : Option Addr) (D : List Nat) (hD : Bytes w B5 A5 n5 D) (hB : B5 ≤ w.heap.size) :
    Calls Try.prog 64 #[.pointer (some ⟨b, 0, none⟩), .int .u64 (sent : Int), .slice A5 n5 c5] w (NewBytes w (sendN g sent D)) := by
  obtain ⟨A1, n1, c1, A2, n2, c2, A3, n3, c3, h⟩ := h
  have hg := hz.g0
  have hg2 := hz.g1
  obtain ⟨p, hp⟩ : ∃ p, min sent 255 = p := ⟨_, rfl⟩
  have hmin := least64 sent 255 p 255 rfl hp
  have q1 : IntKind.i64.wrap (p : Int) = (p : Int) := IntWalk.i64_in _ (by omega)
  have x0 := h.x0
  have HD := Lib.hid hD
  have HBB := Lib.hid hB
  clear h hD hB
  by_cases hlt : sent < g
  · obtain rfl : sent = p := by omega
    have hS : sendN g sent D = vUnit g sent := if_pos hlt
    rw [hS]
    have C1 := Lib.hid (sys_any (sent : Int) (g : Int) true (decide_eq_true (by omega)).symm)
    have C2 := Lib.hid (vunit_in g sent hlt (by omega) w)
    clear hS hp
    go_enter Try.func64, Try.ntmps64
    go_wp2_with fail
    refine (C1.out _).mono ?_
    rintro e w1 ⟨rfl, rfl⟩
    go_wp2_with fail
    refine C2.out.mono ?_
    rintro e w2 ⟨A, n, c, rfl, o, k⟩
    have O := Lib.hid o
    have K := Lib.hid k
    clear o k
    go_wp2_with fail
    go_ret
    exact ⟨A, n, c, rfl, O.out, K.out⟩
  · have hS : sendN g sent D = coefN g (sent % g) D := if_neg hlt
    rw [hS]
    have C1 := Lib.hid (sys_any (p : Int) (g : Int) false (decide_eq_false (by omega)).symm)
    have C2 := Lib.hid (fun w => turn_any sent g hs hg hg2 w)
    obtain ⟨t, ht⟩ : ∃ t, sent % g = t := ⟨_, rfl⟩
    have htl : t < g := by rw [← ht]; exact Nat.mod_lt _ (by omega)
    rw [ht] at C2 ⊢
    have C3 := Lib.hid (coefs_any B5 g t n5 c5 A5 D w HD.out HBB.out hg hg2 htl)
    clear hS hp ht
    go_enter Try.func64, Try.ntmps64
    go_wp2_with fail
    refine (C1.out _).mono ?_
    rintro e w1 ⟨rfl, rfl⟩
    go_wp2_with fail
    refine (C2.out _).mono ?_
    rintro e w1 ⟨rfl, rfl⟩
    go_wp2_with fail
    refine C3.out.mono ?_
    rintro e w2 ⟨A, n, c, rfl, o, k⟩
    have O := Lib.hid o
    have K := Lib.hid k
    clear o k
    go_wp2_with fail
    go_ret
    exact ⟨A, n, c, rfl, O.out, K.out⟩
set_option maxHeartbeats 1000000 in
theorem stream_any (h : SrcR w F b g s xs cs M cl) (hl : xs.length ≤ 140737488355328) : Calls Try.prog 32 #[.pointer (some ⟨b, 0, none⟩)] w (NewBytes w xs) := by
  obtain ⟨A1, n1, c1, A2, n2, c2, A3, n3, c3, h⟩ := h
  have x2 := h.x2
  have HC := Lib.hid (clone_any w.heap.size n1 c1 A1 xs w h.s1.bytes (Nat.le_refl _) (by have := h.n1eq; omega))
  clear h
  go_enter Try.func32, Try.ntmps32
  go_wp2_with fail
  refine HC.out.mono ?_
  rintro e w1 ⟨A, n, c, rfl, o, k⟩
  have O := Lib.hid o
  have K := Lib.hid k
  clear o k
  go_wp2_with fail
  go_ret
  exact ⟨A, n, c, rfl, O.out, K.out⟩
set_option maxHeartbeats 1000000 in
theorem cuts_any (h : SrcR w F b g s xs cs M cl) (hl : cs.length ≤ 17592186044416) : Calls Try.prog 34 #[.pointer (some ⟨b, 0, none⟩)] w (NewInts w cs) := by
  obtain ⟨A1, n1, c1, A2, n2, c2, A3, n3, c3, h⟩ := h
  have x3 := h.x3
  have HC := Lib.hid (cloneints_any w.heap.size n2 c2 A2 cs w h.s2.nats (Nat.le_refl _) (by have := h.s2.length; omega))
  clear h
  go_enter Try.func34, Try.ntmps34
  go_wp2_with fail
  refine HC.out.mono ?_
  rintro e w1 ⟨A, n, c, rfl, o, k⟩
  have O := Lib.hid o
  have K := Lib.hid k
  clear o k
  go_wp2_with fail
  go_ret
  exact ⟨A, n, c, rfl, O.out, K.out⟩
theorem stream_nil (w : World) : Calls Try.prog 32 #[.pointer none] w (NewBytes w []) := by
  go_enter Try.func32, Try.ntmps32
  go_wp2_with fail
  go_ret
  exact ⟨none, 0, 0, rfl, Own.none_ _ _ _, Keep.refl _⟩
theorem cuts_nil (w : World) : Calls Try.prog 34 #[.pointer none] w (NewInts w []) := by
  go_enter Try.func34, Try.ntmps34
  go_wp2_with fail
  go_ret
  exact ⟨none, 0, 0, rfl, OwnI.none_ _ _, Keep.refl _⟩
set_option maxRecDepth 100000 in
set_option maxHeartbeats 2000000 in
theorem syms_any {P : Nat} (h : SrcR w F b g s xs cs M cl) (hG : GoodS g s P xs cs M) (gen : Nat) (hgen : gen < 18446744073709551616) :
    Calls Try.prog 20 #[.pointer (some ⟨b, 0, none⟩), .int .u64 (gen : Int)] w fun e w' => ∃ A n c, e = .returned (.tuple #[.slice A n c, .int .i64 (symE M gen)]) ∧ SymAt w w' A n c (symL g s M gen) := by
  have hg := hG.size.g0
  have hfew := hG.few
  have HS := Lib.hid h
  obtain ⟨A1, n1, c1, A2, n2, c2, A3, n3, c3, ha⟩ := h
  have HA := Lib.hid ha
  have HG := Lib.hid hG
  obtain ⟨re, hre⟩ : ∃ re, symE M gen = re := ⟨_, rfl⟩
  obtain ⟨sl, hsl⟩ : ∃ sl, symL g s M gen = sl := ⟨_, rfl⟩
  rw [hre, hsl]
  have HRE := Lib.hid hre
  have HSL := Lib.hid hsl
  have HFEW := Lib.hid hfew
  clear ha hG hre hsl hfew
  go_enter Try.func20, Try.ntmps20
  go_wp2_with fail
  refine (isnone_any HA.out hg).mono ?_
  rintro e w1 ⟨u1, rfl, k1, a1⟩
  obtain ⟨i1, j1, rfl⟩ := a1.form
  have K1 := Lib.hid k1
  have V1 := Lib.hid a1
  clear k1 a1
  go_wp2_with fail
  refine (hasno_any (HA.out.keep K1.out) (by have := HFEW.out; omega) gen re HRE.out).mono ?_
  rintro e w2 ⟨u2, rfl, k2, a2⟩
  obtain ⟨i2, j2, rfl⟩ := a2.form
  have K2 := Lib.hid k2
  have V2 := Lib.hid a2
  clear k2 a2
  go_wp2_with fail
  refine (first2 _ _ 0 re w2 (V1.out.keep K2.out) (V2.out.weak fun _ => trivial) _ _).mono ?_
  rw [show or2 0 re = re from if_pos rfl]
  rintro e w3 ⟨rfl, m, hw3⟩
  have K3 : Hid (Keep w w3) := by show Keep w w3; rw [hw3]; exact ((K1.out.trans K2.out).alloc _ _).drewN m
  clear hw3 K1 V1 K2 V2
  by_cases hlt : M.length ≤ gen
  · obtain rfl : (23 : Int) = re := by rw [← HRE.out]; exact (if_pos hlt).symm
    obtain rfl : [] = sl := by rw [← HSL.out]; exact (if_pos hlt).symm
    clear hlt
    go_wp2_with fail
    go_ret2
    exact ⟨none, 0, 0, rfl, ⟨[], RowsIn.nothing _ _ _, Nat.le_refl _, rfl⟩, Or.inl rfl, by omega, K3.out⟩
  · obtain rfl : (0 : Int) = re := by rw [← HRE.out]; exact (if_neg hlt).symm
    have hL : layN g s (M.getD gen []) = sl := by rw [← HSL.out]; exact (if_neg hlt).symm
    have hM : M[gen]? = some (M.getD gen []) := by
      rw [List.getD_eq_getElem?_getD, List.getElem?_eq_getElem (by omega)]; rfl
    have HSY := Lib.hid (symbols_any (HS.out.keep K3.out) HG.out gen _ hM)
    rw [hL] at HSY
    clear hlt hM hL
    go_wp2_with fail
    refine HSY.out.mono ?_
    rintro e w4 ⟨A, n, c, rfl, hS⟩
    have HQ := Lib.hid (hS.before K3.out)
    clear hS
    go_wp2_with fail
    go_ret2
    exact ⟨A, n, c, rfl, HQ.out⟩
set_option maxRecDepth 100000 in
set_option maxHeartbeats 4000000 in
theorem rowm_any {P : Nat} (h : SrcR w F b g s xs cs M cl) (hG : GoodS g s P xs cs M) (gen : Nat) (hgen : gen < 18446744073709551616)  (B5 n5 c5 : Nat) (A5 : Option Addr) (D : List Nat) (hD : Bytes w B5 A5 n5 D) (hB : B5 ≤ w.heap.size) :
    Calls Try.prog 23 #[.pointer (some ⟨b, 0, none⟩), .int .u64 (gen : Int), .slice A5 n5 c5] w (NewRow w (rowC g M gen D) (rowP g s M gen D) (rowE g M gen D.length)) := by
  have hg := hG.size.g0
  have hfew := hG.few
  have hDl := hD.length
  obtain ⟨H, hH⟩ : ∃ H, w.heap.size = H := ⟨_, rfl⟩
  obtain ⟨w0, hw0⟩ : ∃ w0, w.alloc (.cells #[.slice none 0 0, .slice none 0 0] 56) = w0 := ⟨_, rfl⟩
  have k0 : Keep w w0 := by rw [← hw0]; exact (Keep.refl w).alloc _ _
  have p0 : Pair2 w0 H (.slice none 0 0) (.slice none 0 0) 56 := by rw [← hw0, ← hH]; exact Pair2.new w _ _ _
  have HS := Lib.hid (h.keep k0)
  obtain ⟨A1, n1, c1, A2, n2, c2, A3, n3, c3, ha⟩ := h
  have HA := Lib.hid (ha.keep k0)
  have HG := Lib.hid hG
  obtain ⟨re, hre⟩ : ∃ re, rowE g M gen D.length = re := ⟨_, rfl⟩
  obtain ⟨rC, hrC⟩ : ∃ rC, rowC g M gen D = rC := ⟨_, rfl⟩
  obtain ⟨rP, hrP⟩ : ∃ rP, rowP g s M gen D = rP := ⟨_, rfl⟩
  rw [hre, hrC, hrP]
  have HRE := Lib.hid hre
  have HRC := Lib.hid hrC
  have HRP := Lib.hid hrP
  have HFEW := Lib.hid hfew
  have HDL := Lib.hid hDl
  have K0 := Lib.hid k0
  have P0 := Lib.hid p0
  have HD := Lib.hid hD
  have HBB := Lib.hid hB
  have HHH := Lib.hid hH
  clear ha hG hre hrC hrP hfew hD hB k0 p0 hDl
  go_enter Try.func23, Try.ntmps23
  go_wp2_with fail
  refine (isnone_any HA.out hg).mono ?_
  rintro e w1 ⟨u1, rfl, k1, a1⟩
  obtain ⟨i1, j1, rfl⟩ := a1.form
  have K1 := Lib.hid k1
  have V1 := Lib.hid a1
  clear k1 a1
  go_wp2_with fail
  refine (hasno_any (HA.out.keep K1.out) (by have := HFEW.out; omega) gen _ rfl).mono ?_
  rintro e w2 ⟨u2, rfl, k2, a2⟩
  obtain ⟨i2, j2, rfl⟩ := a2.form
  have K2 := Lib.hid k2
  have V2 := Lib.hid a2
  clear k2 a2
  go_wp2_with fail
  refine (fitsnot_any (HA.out.keep (K1.out.trans K2.out)) A5 n5 c5 _ rfl).mono ?_
  rintro e w3 ⟨u3, rfl, k3, a3⟩
  obtain ⟨i3, j3, rfl⟩ := a3.form
  have K3 := Lib.hid k3
  have V3 := Lib.hid a3
  clear k3 a3
  go_wp2_with fail
  refine (first3 _ _ _ 0 _ _ w3 (V1.out.keep (K2.out.trans K3.out)) ((V2.out.keep K3.out).weak fun _ => trivial) (V3.out.weak fun _ => trivial) _ _).mono ?_
  rw [show or3 0 (if M.length ≤ gen then 23 else 0) (if n5 = g then 0 else 21) = re by
    have h1 := HRE.out
    have h2 := HDL.out
    unfold rowE at h1
    rw [h2] at h1
    rw [← h1, or3, if_pos rfl]
    split <;> simp]
  rintro e w4 ⟨rfl, m, hw4⟩
  have K4 : Hid (Keep w0 w4) := by show Keep w0 w4; rw [hw4]; exact (((K1.out.trans K2.out).trans K3.out).alloc _ _).drewN m
  clear hw4 K1 V1 K2 V2 K3 V3
  have p4 := P0.out.keep K4.out
  by_cases hz : re = 0
  · subst hz
    have hlt : ¬ M.length ≤ gen := fun e => by
      have h1 := HRE.out
      unfold rowE at h1
      rw [if_pos e] at h1
      cases h1
    have hM : M[gen]? = some (M.getD gen []) := by
      rw [List.getD_eq_getElem?_getD, List.getElem?_eq_getElem (by omega)]; rfl
    have HM := Lib.hid hM
    clear hlt hM
    obtain rfl : n5 = g := by
      have h1 := HRE.out
      have h2 := HDL.out
      unfold rowE at h1
      rw [h2] at h1
      split at h1
      · cases h1
      · split at h1
        · assumption
        · cases h1
    have HCE : Hid (rowC n5 M gen D = D) := if_pos HRE.out
    have HPE : Hid (rowP n5 s M gen D = vComb s (layN n5 s (M.getD gen [])) D n5) := if_pos HRE.out
    have HR := Lib.hid (row_any (HS.out.keep K4.out) HG.out gen _ HM.out B5 c5 A5 D (HD.out.keep HBB.out (K0.out.trans K4.out)) (by have := HBB.out; have := (K0.out.trans K4.out).size; omega))
    generalize vComb s (layN n5 s (M.getD gen [])) D n5 = V at *
    go_wp2_with fail
    refine HR.out.mono ?_
    rintro e w6 ⟨A, n, c, A', n', c', rfl, q1, q2, q3⟩
    have p6 := (p4.keep q3)
    have x0 := p6.cell0
    have x1 := p6.cell1
    have f0 := p6.free 0
    have f1 := p6.free 1
    have p8 := p6.put0 (x := .slice A n c)
    have y1 := p8.cell1
    have g1 := p8.free 1
    have p9 := p8.put1 (x := .slice A' n' c')
    have K6 : Hid (Keep w0 w6) := K4.out.trans q3
    have hlo : w.heap.size = H ∧ H < w4.heap.size := ⟨HHH.out, by have := (P0.out.keep K4.out).lt; exact this⟩
    have K9 : Hid (Keep w ((w6.setCell ⟨H, 0, none⟩ (.slice A n c)).setCell ⟨H, 1, none⟩ (.slice A' n' c'))) := ((K0.out.trans K6.out).setCell (a := ⟨H, 0, none⟩) (by have := HHH.out; show _ ≤ H; omega) _).setCell (a := ⟨H, 1, none⟩) (by have := HHH.out; show _ ≤ H; omega) _
    have t9 : Turned (fun i => i = H) w6 ((w6.setCell ⟨H, 0, none⟩ (.slice A n c)).setCell ⟨H, 1, none⟩ (.slice A' n' c')) := (Turned.set (F := fun i => i = H) w6 ⟨H, 0, none⟩ _ rfl).trans (Turned.set (F := fun i => i = H) _ ⟨H, 1, none⟩ _ rfl) fun i e => Or.inl e
    have P7 : Hid (Own ((w6.setCell ⟨H, 0, none⟩ (.slice A n c)).setCell ⟨H, 1, none⟩ (.slice A' n' c')) w.heap.size 5 A n c rC) := by
      show Own _ _ _ _ _ _ _
      rw [← HRC.out, HCE.out]
      exact (q1.turned t9 fun i e e2 => by have := (q1.blt i e).1; omega).lower (by omega)
    have P8 : Hid (Own ((w6.setCell ⟨H, 0, none⟩ (.slice A n c)).setCell ⟨H, 1, none⟩ (.slice A' n' c')) w.heap.size 5 A' n' c' rP) := by
      show Own _ _ _ _ _ _ _
      rw [← HRP.out, HPE.out]
      exact (q2.turned t9 fun i e e2 => by have := (q2.blt i e).1; omega).lower (by omega)
    clear p6 p8 q1 q2 q3 t9 hlo p4
    go_wp2_with fail
    refine bodyPost_ret (results_cell_and (p := 6) (u := 7) (ty := 56) rfl _ _ H 56 _ (0, 0) _ rfl p9 Try.underlying56 rfl infoARow) rfl ?_
    exact ⟨A, n, c, A', n', c', rfl, P7.out, P8.out, K9.out⟩
  · have hC0 : rC = [] := by
      rw [← HRC.out]
      exact if_neg (by rw [HRE.out]; exact hz)
    have hP0 : rP = [] := by
      rw [← HRP.out]
      exact if_neg (by rw [HRE.out]; exact hz)
    subst hC0 hP0
    have x0 := p4.cell0
    have x1 := p4.cell1
    have f0 := p4.free 0
    have f1 := p4.free 1
    have p8 := p4.put0 (x := .slice none 0 0)
    have y1 := p8.cell1
    have g1 := p8.free 1
    have p9 := p8.put1 (x := .slice none 0 0)
    have K9 : Hid (Keep w ((w4.setCell ⟨H, 0, none⟩ (.slice none 0 0)).setCell ⟨H, 1, none⟩ (.slice none 0 0))) := ((K0.out.trans K4.out).setCell (a := ⟨H, 0, none⟩) (by have := HHH.out; show _ ≤ H; omega) _).setCell (a := ⟨H, 1, none⟩) (by have := HHH.out; show _ ≤ H; omega) _
    clear p4 p8
    go_wp2_with fail
    refine bodyPost_ret (results_cell_and (p := 6) (u := 7) (ty := 56) rfl _ _ H 56 _ (0, 0) _ rfl p9 Try.underlying56 rfl infoARow) rfl ?_
    exact ⟨none, 0, 0, none, 0, 0, rfl, Own.none_ _ _ _, Own.none_ _ _ _, K9.out⟩
set_option maxRecDepth 100000 in
set_option maxHeartbeats 4000000 in
theorem send_any {P : Nat} (h : SrcR w F b g s xs cs M cl) (hG : GoodS g s P xs cs M) (gen : Nat) (hgen : gen < 18446744073709551616) (sent : Nat) (hsent : sent < 18446744073709551616) (B5 n5 c5 : Nat) (A5 : Option Addr) (D : List Nat) (hD : Bytes w B5 A5 n5 D) (hB : B5 ≤ w.heap.size) :
    Calls Try.prog 26 #[.pointer (some ⟨b, 0, none⟩), .int .u64 (gen : Int), .int .u64 (sent : Int), .slice A5 n5 c5] w (NewRow w (sendC g M gen sent D) (sendP g s M gen sent D) (symE M gen)) := by
  have hg := hG.size.g0
  have hfew := hG.few
  have hDl := hD.length
  obtain ⟨H, hH⟩ : ∃ H, w.heap.size = H := ⟨_, rfl⟩
  obtain ⟨w0, hw0⟩ : ∃ w0, w.alloc (.cells #[.slice none 0 0, .slice none 0 0] 56) = w0 := ⟨_, rfl⟩
  have k0 : Keep w w0 := by rw [← hw0]; exact (Keep.refl w).alloc _ _
  have p0 : Pair2 w0 H (.slice none 0 0) (.slice none 0 0) 56 := by rw [← hw0, ← hH]; exact Pair2.new w _ _ _
  have HS := Lib.hid (h.keep k0)
  obtain ⟨A1, n1, c1, A2, n2, c2, A3, n3, c3, ha⟩ := h
  have HA := Lib.hid (ha.keep k0)
  have HG := Lib.hid hG
  obtain ⟨re, hre⟩ : ∃ re, symE M gen = re := ⟨_, rfl⟩
  obtain ⟨rC, hrC⟩ : ∃ rC, sendC g M gen sent D = rC := ⟨_, rfl⟩
  obtain ⟨rP, hrP⟩ : ∃ rP, sendP g s M gen sent D = rP := ⟨_, rfl⟩
  rw [hre, hrC, hrP]
  have HRE := Lib.hid hre
  have HRC := Lib.hid hrC
  have HRP := Lib.hid hrP
  have HFEW := Lib.hid hfew
  have HDL := Lib.hid hDl
  have K0 := Lib.hid k0
  have P0 := Lib.hid p0
  have HD := Lib.hid hD
  have HBB := Lib.hid hB
  have HHH := Lib.hid hH
  clear ha hG hre hrC hrP hfew hD hB k0 p0 hDl
  go_enter Try.func26, Try.ntmps26
  go_wp2_with fail
  refine (isnone_any HA.out hg).mono ?_
  rintro e w1 ⟨u1, rfl, k1, a1⟩
  obtain ⟨i1, j1, rfl⟩ := a1.form
  have K1 := Lib.hid k1
  have V1 := Lib.hid a1
  clear k1 a1
  go_wp2_with fail
  refine (hasno_any (HA.out.keep K1.out) (by have := HFEW.out; omega) gen _ rfl).mono ?_
  rintro e w2 ⟨u2, rfl, k2, a2⟩
  obtain ⟨i2, j2, rfl⟩ := a2.form
  have K2 := Lib.hid k2
  have V2 := Lib.hid a2
  clear k2 a2
  go_wp2_with fail
  refine (first2 _ _ 0 _ w2 (V1.out.keep K2.out) (V2.out.weak fun _ => trivial) _ _).mono ?_
  rw [show or2 0 (if M.length ≤ gen then 23 else 0) = re by
    have h1 := HRE.out
    unfold symE at h1
    rw [← h1, or2, if_pos rfl]]
  rintro e w4 ⟨rfl, m, hw4⟩
  have K4 : Hid (Keep w0 w4) := by show Keep w0 w4; rw [hw4]; exact ((K1.out.trans K2.out).alloc _ _).drewN m
  clear hw4 K1 V1 K2 V2
  have p4 := P0.out.keep K4.out
  by_cases hz : re = 0
  · subst hz
    have hlt : ¬ M.length ≤ gen := fun e => by
      have h1 := HRE.out
      unfold symE at h1
      rw [if_pos e] at h1
      cases h1
    have hM : M[gen]? = some (M.getD gen []) := by
      rw [List.getD_eq_getElem?_getD, List.getElem?_eq_getElem (by omega)]; rfl
    have HM := Lib.hid hM
    clear hlt hM
    have HCE : Hid (sendC g M gen sent D = sendN g sent D) := if_pos HRE.out
    have HPE : Hid (sendP g s M gen sent D = vComb s (layN g s (M.getD gen [])) (sendN g sent D) g) := if_pos HRE.out
    have HCO := Lib.hid (scoefs_any (HS.out.keep K4.out) HG.out.size sent hsent B5 n5 c5 A5 D (HD.out.keep HBB.out (K0.out.trans K4.out)) (by have := HBB.out; have := (K0.out.trans K4.out).size; omega))
    have HNL := Lib.hid (sendN_len g sent D)
    generalize sendN g sent D = N at *
    go_wp2_with fail
    refine HCO.out.mono ?_
    rintro e w5 ⟨A6, n6, c6, rfl, o6, k5⟩
    obtain rfl : n6 = g := by have := o6.length; have := HNL.out; omega
    have K5 := Lib.hid k5
    have HR := Lib.hid (row_any ((HS.out.keep K4.out).keep k5) HG.out gen _ HM.out w5.heap.size c6 A6 N o6.bytes (Nat.le_refl _))
    clear o6 k5
    generalize vComb s (layN n6 s (M.getD gen [])) N n6 = V at *
    go_wp2_with fail
    refine HR.out.mono ?_
    rintro e w6 ⟨A, n, c, A', n', c', rfl, q1, q2, q3⟩
    have p6 := (p4.keep K5.out).keep q3
    have x0 := p6.cell0
    have x1 := p6.cell1
    have f0 := p6.free 0
    have f1 := p6.free 1
    have p8 := p6.put0 (x := .slice A n c)
    have y1 := p8.cell1
    have g1 := p8.free 1
    have p9 := p8.put1 (x := .slice A' n' c')
    have K6 : Hid (Keep w0 w6) := (K4.out.trans K5.out).trans q3
    have hlo : w.heap.size = H ∧ H < w5.heap.size := ⟨HHH.out, by have := (P0.out.keep (K4.out.trans K5.out)).lt; exact this⟩
    have K9 : Hid (Keep w ((w6.setCell ⟨H, 0, none⟩ (.slice A n c)).setCell ⟨H, 1, none⟩ (.slice A' n' c'))) := ((K0.out.trans K6.out).setCell (a := ⟨H, 0, none⟩) (by have := HHH.out; show _ ≤ H; omega) _).setCell (a := ⟨H, 1, none⟩) (by have := HHH.out; show _ ≤ H; omega) _
    have t9 : Turned (fun i => i = H) w6 ((w6.setCell ⟨H, 0, none⟩ (.slice A n c)).setCell ⟨H, 1, none⟩ (.slice A' n' c')) := (Turned.set (F := fun i => i = H) w6 ⟨H, 0, none⟩ _ rfl).trans (Turned.set (F := fun i => i = H) _ ⟨H, 1, none⟩ _ rfl) fun i e => Or.inl e
    have P7 : Hid (Own ((w6.setCell ⟨H, 0, none⟩ (.slice A n c)).setCell ⟨H, 1, none⟩ (.slice A' n' c')) w.heap.size 5 A n c rC) := by
      show Own _ _ _ _ _ _ _
      rw [← HRC.out, HCE.out]
      exact (q1.turned t9 fun i e e2 => by have := (q1.blt i e).1; omega).lower (by omega)
    have P8 : Hid (Own ((w6.setCell ⟨H, 0, none⟩ (.slice A n c)).setCell ⟨H, 1, none⟩ (.slice A' n' c')) w.heap.size 5 A' n' c' rP) := by
      show Own _ _ _ _ _ _ _
      rw [← HRP.out, HPE.out]
      exact (q2.turned t9 fun i e e2 => by have := (q2.blt i e).1; omega).lower (by omega)
    clear p6 p8 q1 q2 q3 t9 hlo p4
    go_wp2_with fail
    refine bodyPost_ret (results_cell_and (p := 8) (u := 9) (ty := 56) rfl _ _ H 56 _ (0, 0) _ rfl p9 Try.underlying56 rfl infoARow) rfl ?_
    exact ⟨A, n, c, A', n', c', rfl, P7.out, P8.out, K9.out⟩
  · have hC0 : rC = [] := by
      rw [← HRC.out]
      exact if_neg (by rw [HRE.out]; exact hz)
    have hP0 : rP = [] := by
      rw [← HRP.out]
      exact if_neg (by rw [HRE.out]; exact hz)
    subst hC0 hP0
    have x0 := p4.cell0
    have x1 := p4.cell1
    have f0 := p4.free 0
    have f1 := p4.free 1
    have p8 := p4.put0 (x := .slice none 0 0)
    have y1 := p8.cell1
    have g1 := p8.free 1
    have p9 := p8.put1 (x := .slice none 0 0)
    have K9 : Hid (Keep w ((w4.setCell ⟨H, 0, none⟩ (.slice none 0 0)).setCell ⟨H, 1, none⟩ (.slice none 0 0))) := ((K0.out.trans K4.out).setCell (a := ⟨H, 0, none⟩) (by have := HHH.out; show _ ≤ H; omega) _).setCell (a := ⟨H, 1, none⟩) (by have := HHH.out; show _ ≤ H; omega) _
    clear p4 p8
    go_wp2_with fail
    refine bodyPost_ret (results_cell_and (p := 8) (u := 9) (ty := 56) rfl _ _ H 56 _ (0, 0) _ rfl p9 Try.underlying56 rfl infoARow) rfl ?_
    exact ⟨none, 0, 0, none, 0, 0, rfl, Own.none_ _ _ _, Own.none_ _ _ _, K9.out⟩
end
end Go.Proofs.Ytcafofffgmaepaa
/- The landed source: Restore, New. -/
namespace Go.Proofs.Ytcafofffgmaepaa
open Go.RowKit
set_option linter.unusedVariables false
set_option linter.unusedSimpArgs false
/-- telling, with the boxes that its closure has taken. -/
theorem telling_box (f : Nat) (cap : Array Value) (er : Int) (w : World) :
    Calls Try.prog 42 #[.int .i64 er, .func (.func f) #[] cap] w fun e w' => ∃ b1 b2 : Nat, e = .returned (.func (.func 84) #[] #[.pointer (some ⟨b1, 0, none⟩), .pointer (some ⟨b2, 0, none⟩)]) ∧ Keep w w' ∧ w.heap.size ≤ b1 ∧ w.heap.size ≤ b2 ∧ Held w' b1 (.func (.func f) #[] cap) 29 ∧ Held w' b2 (.int .i64 er) 33 := by
  have hmf : ∀ (fn : Fn) (first cap : Array Value) (w : World), (Instr.makeFunc fn first cap).run Try.prog w = .ok (.func fn first cap) w := fun _ _ _ _ => rfl
  obtain ⟨w2, hw2⟩ : ∃ w2, (w.alloc (.cells #[.int .i64 er] 33)).alloc (.cells #[.func (.func f) #[] cap] 29) = w2 := ⟨_, rfl⟩
  have k2 : Keep w w2 := by rw [← hw2]; exact ((Keep.refl w).alloc _ _).alloc _ _
  have g1 : Held w2 w.heap.size (.int .i64 er) 33 := by
    rw [← hw2]; exact (Held.new rfl _ _).keep ((Keep.refl _).alloc _ _)
  have g2 : Held w2 (w.heap.size + 1) (.func (.func f) #[] cap) 29 := by
    rw [← hw2]; exact Held.new (by simp) _ _
  have H1 := Lib.hid g1
  have H2 := Lib.hid g2
  have HK := Lib.hid k2
  clear g1 g2 k2
  go_enter Try.func42, Try.ntmps42
  go_wp2_with fail
  go_ret
  exact ⟨_, _, rfl, HK.out, by omega, by omega, H2.out, H1.out⟩
theorem Held.turned {F : Nat → Prop} {w w' : World} {b : Nat} {v : Value} {t : TypeId} (h : Held w b v t) (k : Turned F w w') (hn : ¬ F b) : Held w' b v t := (k.block b (lt_of_block h) hn).trans h
theorem Held.put {w : World} {b : Nat} {v u : Value} {t : TypeId} (h : Held w b v t) : Held (w.setCell ⟨b, 0, none⟩ u) b u t := one_setCell h
theorem Held.free {w : World} {b : Nat} {v : Value} {t : TypeId} (h : Held w b v t) : w.frozen? ⟨b, 0, none⟩ = false := free_of_one h
theorem Held.lt {w : World} {b : Nat} {v : Value} {t : TypeId} (h : Held w b v t) : b < w.heap.size := lt_of_block h
/-- The boxes of Restore's variables. -/
structure Boxes (w : World) (H : Nat) (g s : Int) (vs vc : Value) (cl : Bool) : Prop where
  b0 : Held w H (.int .i64 g) 3
  b1 : Held w (H + 1) (.int .i64 s) 3
  b2 : Held w (H + 2) vs 22
  b3 : Held w (H + 3) vc 23
  b4 : Held w (H + 4) (.bool cl) 4
theorem Boxes.turned {F : Nat → Prop} {w w' : World} {H : Nat} {g s : Int} {vs vc : Value} {cl : Bool} (h : Boxes w H g s vs vc cl) (k : Turned F w w') (hn : ∀ i, F i → H + 5 ≤ i) : Boxes w' H g s vs vc cl :=
  ⟨h.b0.turned k fun e => by have := hn _ e; omega, h.b1.turned k fun e => by have := hn _ e; omega, h.b2.turned k fun e => by have := hn _ e; omega, h.b3.turned k fun e => by have := hn _ e; omega, h.b4.turned k fun e => by have := hn _ e; omega⟩
theorem Boxes.keep {w w' : World} {H : Nat} {g s : Int} {vs vc : Value} {cl : Bool} (h : Boxes w H g s vs vc cl) (k : Keep w w') : Boxes w' H g s vs vc cl := h.turned (Turned.of_keep (F := fun _ => False) k) fun _ e => e.elim
theorem rest_start (w : World) (g s : Int) (vs vc : Value) (cl : Bool) :
    ∃ w1, ((((((w.alloc (.cells #[.int .i64 g] 3)).alloc (.cells #[.int .i64 s] 3)).alloc (.cells #[vs] 22)).alloc (.cells #[vc] 23)).alloc (.cells #[.bool cl] 4)).alloc (.cells #[.slice none 0 0] 49)).alloc (.cells #[.slice none 0 0] 22) = w1 ∧ w1.heap.size = w.heap.size + 7 ∧ Keep w w1 ∧ Boxes w1 w.heap.size g s vs vc cl ∧ Held w1 (w.heap.size + 5) (.slice none 0 0) 49 ∧ Held w1 (w.heap.size + 6) (.slice none 0 0) 22 := by
  have step : ∀ (w : World) (v : Value) (t : TypeId), ∃ w1, w.alloc (.cells #[v] t) = w1 ∧ w1.heap.size = w.heap.size + 1 ∧ Keep w w1 ∧ Held w1 w.heap.size v t := fun w v t => ⟨_, rfl, by simp, (Keep.refl w).alloc _ _, Held.new rfl _ _⟩
  obtain ⟨a1, e1, z1, k1, h1⟩ := step w (.int .i64 g) 3
  obtain ⟨a2, e2, z2, k2, h2⟩ := step a1 (.int .i64 s) 3
  obtain ⟨a3, e3, z3, k3, h3⟩ := step a2 vs 22
  obtain ⟨a4, e4, z4, k4, h4⟩ := step a3 vc 23
  obtain ⟨a5, e5, z5, k5, h5⟩ := step a4 (.bool cl) 4
  obtain ⟨a6, e6, z6, k6, h6⟩ := step a5 (.slice none 0 0) 49
  obtain ⟨a7, e7, z7, k7, h7⟩ := step a6 (.slice none 0 0) 22
  have s1 : a1.heap.size = w.heap.size + 1 := z1
  have s2 : a2.heap.size = w.heap.size + 2 := by omega
  have s3 : a3.heap.size = w.heap.size + 3 := by omega
  have s4 : a4.heap.size = w.heap.size + 4 := by omega
  have s5 : a5.heap.size = w.heap.size + 5 := by omega
  have s6 : a6.heap.size = w.heap.size + 6 := by omega
  rw [s1] at h2
  rw [s2] at h3
  rw [s3] at h4
  rw [s4] at h5
  rw [s5] at h6
  rw [s6] at h7
  have t6 := k7
  have t5 := k6.trans t6
  have t4 := k5.trans t5
  have t3 := k4.trans t4
  have t2 := k3.trans t3
  have t1 := k2.trans t2
  exact ⟨a7, by rw [e1, e2, e3, e4, e5, e6, e7], by omega, k1.trans t1, ⟨h1.keep t1, h2.keep t2, h3.keep t3, h4.keep t4, h5.keep t5⟩, h6.keep t6, h7⟩
section
variable {w : World} {H : Nat} {g s : Int} {cl : Bool}
theorem rest1 (b n c : Nat) (A : Option Addr) (bb : Bool) (hb : decide (262144 < n) = bb) (h : Held w b (.slice A n c) 22) :
    Calls Try.prog 43 #[.pointer (some ⟨b, 0, none⟩)] w fun e w' => e = .returned (.bool bb) ∧ ∃ m, w' = w.drewN m := by
  have c1 := h.cell
  clear h
  by_cases hl : 262144 < n
  · obtain rfl : true = bb := by rw [← hb]; exact (decide_eq_true hl).symm
    have d : (262144 : Int) < (n : Int) := by omega
    clear hb
    go_enter Try.func43, Try.ntmps43
    go_wp2_with fail
    go_ret
    exact ⟨rfl, 0, rfl⟩
  · obtain rfl : false = bb := by rw [← hb]; exact (decide_eq_false hl).symm
    have d : ¬ (262144 : Int) < (n : Int) := by omega
    have E : Hid (decide (262144 < n) = false) := decide_eq_false hl
    clear hb
    go_enter Try.func43, Try.ntmps43
    go_wp2_with fail
    go_ret
    exact ⟨by first | rfl | (show Ending.returned (.bool (decide (262144 < n))) = _; rw [E.out]), 0, rfl⟩
theorem rest3 (b1 b2 n c : Nat) (A : Option Addr) (bb : Bool) (hb : (cl && decide (0 < n)) = bb) (h1 : Held w b1 (.bool cl) 4) (h2 : Held w b2 (.slice A n c) 22) :
    Calls Try.prog 46 #[.pointer (some ⟨b1, 0, none⟩), .pointer (some ⟨b2, 0, none⟩)] w fun e w' => e = .returned (.bool bb) ∧ ∃ m, w' = w.drewN m := by
  have c1 := h1.cell
  have c2 := h2.cell
  clear h1 h2
  cases cl with
  | false =>
    obtain rfl : false = bb := by rw [← hb]; rfl
    clear hb
    go_enter Try.func46, Try.ntmps46
    go_wp2_with fail
    go_ret
    exact ⟨rfl, 0, rfl⟩
  | true =>
    rw [Bool.true_and] at hb
    by_cases hl : 0 < n
    · obtain rfl : true = bb := by rw [← hb]; exact (decide_eq_true hl).symm
      have d : (0 : Int) < (n : Int) := by omega
      clear hb
      go_enter Try.func46, Try.ntmps46
      go_wp2_with fail
      go_ret
      exact ⟨rfl, 0, rfl⟩
    · obtain rfl : false = bb := by rw [← hb]; exact (decide_eq_false hl).symm
      obtain rfl : n = 0 := by omega
      clear hb
      go_enter Try.func46, Try.ntmps46
      go_wp2_with fail
      go_ret
      exact ⟨rfl, 0, rfl⟩
/-- What Chunks has told, in its boxes. -/
structure Got (W wr : World) (H : Nat) (M : List (List Nat)) (O : List Nat) (A9 : Option Addr) (n9 c9 : Nat) (rs : List RowV) (A8 : Option Addr) (n8 c8 : Nat) : Prop where
  b5 : Held wr (H + 5) (.slice A9 n9 c9) 49
  b6 : Held wr (H + 6) (.slice A8 n8 c8) 22
  rows : RowsIn wr (fun x => W.heap.size ≤ x ∧ x < wr.heap.size) A9 n9 rs
  is : rowsXs rs = M
  open_ : O.length = n8
  tn : Turned (fun x => x = H + 5 ∨ x = H + 6) W wr
theorem Got.later {W wr w' : World} {M : List (List Nat)} {O : List Nat} {A9 : Option Addr} {n9 c9 : Nat} {rs : List RowV} {A8 : Option Addr} {n8 c8 : Nat} (h : Got W wr H M O A9 n9 c9 rs A8 n8 c8) (k : Keep wr w') : Got W w' H M O A9 n9 c9 rs A8 n8 c8 :=
  ⟨h.b5.keep k, h.b6.keep k, (h.rows.turned (Turned.of_keep (F := fun _ => False) k) fun _ _ e => e).mono fun x hx => ⟨hx.1, Nat.lt_of_lt_of_le hx.2 k.size⟩, h.is, h.open_, h.tn.then_keep k⟩
set_option maxHeartbeats 2000000 in
theorem rest2 (W : World) (n c m c' : Nat) (A A' : Option Addr) (M : List (List Nat)) (O : List Nat) (er : Int) (hx : Boxes w H g s (.slice A n c) (.slice A' m c') cl) (h5 : Held w (H + 5) (.slice none 0 0) 49) (h6 : Held w (H + 6) (.slice none 0 0) 22) (hk : Keep W w) (hW : H + 7 ≤ W.heap.size)
    (hch : ∀ w', Keep w w' → Calls Try.prog 45 #[.slice A n c, .slice A' m c', .int .i64 g, .int .i64 s] w' (NewCh w' M O er)) :
    Calls Try.prog 44 #[.pointer (some ⟨H + 2, 0, none⟩), .pointer (some ⟨H + 3, 0, none⟩), .pointer (some ⟨H, 0, none⟩), .pointer (some ⟨H + 1, 0, none⟩), .pointer (some ⟨H + 5, 0, none⟩), .pointer (some ⟨H + 6, 0, none⟩)] w fun e w' => e = .returned (.int .i64 er) ∧ ∃ A9 n9 c9 rs A8 n8 c8, Got W w' H M O A9 n9 c9 rs A8 n8 c8 := by
  have c0 := hx.b0.cell
  have c1 := hx.b1.cell
  have c2 := hx.b2.cell
  have c3 := hx.b3.cell
  have HC := Lib.hid (hch w (Keep.refl w))
  have H5 := Lib.hid h5
  have H6 := Lib.hid h6
  have HK := Lib.hid hk
  clear hx hch h5 h6 hk
  go_enter Try.func44, Try.ntmps44
  go_wp2_with fail
  refine HC.out.mono ?_
  rintro e w1 ⟨A9, n9, c9, A8, n8, c8, rs, rfl, hL, hX, hO, k1⟩
  have p5 := H5.out.keep k1
  have p6 := H6.out.keep k1
  have x5 := p5.cell
  have f5 := p5.free
  have q5 : Held (w1.setCell ⟨H + 5, 0, none⟩ (.slice A9 n9 c9)) (H + 5) (.slice A9 n9 c9) 49 := p5.put
  have t5 : Turned (fun x => x = H + 5) w1 (w1.setCell ⟨H + 5, 0, none⟩ (.slice A9 n9 c9)) := Turned.set w1 _ _ rfl
  have q6 := p6.turned t5 (by omega)
  have x6 := q6.cell
  have f6 := q6.free
  have r6 : Held ((w1.setCell ⟨H + 5, 0, none⟩ (.slice A9 n9 c9)).setCell ⟨H + 6, 0, none⟩ (.slice A8 n8 c8)) (H + 6) (.slice A8 n8 c8) 22 := q6.put
  have t6 : Turned (fun x => x = H + 6) (w1.setCell ⟨H + 5, 0, none⟩ (.slice A9 n9 c9)) ((w1.setCell ⟨H + 5, 0, none⟩ (.slice A9 n9 c9)).setCell ⟨H + 6, 0, none⟩ (.slice A8 n8 c8)) := Turned.set _ _ _ rfl
  have r5 := q5.turned t6 (by omega)
  have tt : Turned (fun x => x = H + 5 ∨ x = H + 6) w1 ((w1.setCell ⟨H + 5, 0, none⟩ (.slice A9 n9 c9)).setCell ⟨H + 6, 0, none⟩ (.slice A8 n8 c8)) := (t5.mono fun i _ e => Or.inl e).trans t6 fun i e => Or.inl (Or.inr e)
  have hsz := HK.out.size
  have GG : Hid (Got W ((w1.setCell ⟨H + 5, 0, none⟩ (.slice A9 n9 c9)).setCell ⟨H + 6, 0, none⟩ (.slice A8 n8 c8)) H M O A9 n9 c9 rs A8 n8 c8) := by
    refine ⟨r5, r6, ?_, hX, hO.1, (Turned.of_keep (HK.out.trans k1)).trans tt fun i e => Or.inl e⟩
    have r0 : RowsIn w1 (fun x => w.heap.size ≤ x ∧ x < w1.heap.size) A9 n9 rs := RowsIn.of_own hL.1 (fun r hr => (hL.2.1 r hr).mono fun x hx => ⟨hx.1, hx.2.1⟩) fun x hx => ⟨hL.1.rowLe x hx, (hL.1.lt x hx).2⟩
    exact (r0.turned tt fun x hx e => by omega).mono fun x hx => ⟨by omega, Nat.lt_of_lt_of_le hx.2 tt.size⟩
  clear hL hX hO k1 p5 p6 q5 t5 q6 r6 t6 r5 tt hsz
  go_wp2_with fail
  go_ret
  exact ⟨rfl, A9, n9, c9, rs, A8, n8, c8, GG.out⟩
/-- What Restore tells. -/
def restR (n : Nat) (O : List Nat) (er : Int) (cl : Bool) : Int := if 262144 < n then 1 else if er = 0 then (if cl = true ∧ O ≠ [] then 1 else 0) else er
set_option maxHeartbeats 2000000 in
theorem rest_first (W : World) (bk cc n c m c' a1 a2 d1 d2 : Nat) (A A' : Option Addr) (M : List (List Nat)) (O : List Nat) (er : Int) (hx : Boxes W H g s (.slice A n c) (.slice A' m c') cl) (h5 : Held W (H + 5) (.slice none 0 0) 49) (h6 : Held W (H + 6) (.slice none 0 0) 22) (hW : H + 7 ≤ W.heap.size)
    (hch : n ≤ 262144 → ∀ w', Keep W w' → Calls Try.prog 45 #[.slice A n c, .slice A' m c', .int .i64 g, .int .i64 s] w' (NewCh w' M O er))
    (ha1 : Held W a1 (.func (.func 43) #[] #[.pointer (some ⟨H + 2, 0, none⟩)]) 29) (ha2 : Held W a2 (.int .i64 1) 33)
    (hd1 : Held W d1 (.func (.func 46) #[] #[.pointer (some ⟨H + 4, 0, none⟩), .pointer (some ⟨H + 6, 0, none⟩)]) 29) (hd2 : Held W d2 (.int .i64 1) 33) (hlo : H + 7 ≤ a1 ∧ H + 7 ≤ a2 ∧ H + 7 ≤ d1 ∧ H + 7 ≤ d2 ∧ H + 7 ≤ bk)
    (y0 : W.cell? ⟨bk, 0, none⟩ = some (.func (.func 84) #[] #[.pointer (some ⟨a1, 0, none⟩), .pointer (some ⟨a2, 0, none⟩)]))
    (y1 : W.cell? ⟨bk, 1, none⟩ = some (.func (.func 44) #[] #[.pointer (some ⟨H + 2, 0, none⟩), .pointer (some ⟨H + 3, 0, none⟩), .pointer (some ⟨H, 0, none⟩), .pointer (some ⟨H + 1, 0, none⟩), .pointer (some ⟨H + 5, 0, none⟩), .pointer (some ⟨H + 6, 0, none⟩)]))
    (y2 : W.cell? ⟨bk, 2, none⟩ = some (.func (.func 84) #[] #[.pointer (some ⟨d1, 0, none⟩), .pointer (some ⟨d2, 0, none⟩)])) :
    Calls Try.prog 41 #[.slice (some ⟨bk, 0, none⟩) 3 cc] W fun e w' => e = .returned (.int .i64 (restR n O er cl)) ∧ Turned (fun x => x = H + 5 ∨ x = H + 6) W w' ∧ (restR n O er cl = 0 → ∃ A9 n9 c9 rs A8 n8 c8, Got W w' H M O A9 n9 c9 rs A8 n8 c8) := by
  have te := enters_at Try.func84 (by kernel_rfl) rfl
  have stay : ∀ {i : Nat} {v : Value} {wr : World}, Turned (fun x => x = H + 5 ∨ x = H + 6) W wr → W.cell? ⟨bk, i, none⟩ = some v → wr.cell? ⟨bk, i, none⟩ = some v := fun t h => t.cell (p := ⟨bk, _, none⟩) h (by show ¬ (bk = H + 5 ∨ bk = H + 6); omega)
  refine (first_gen (fun k wr => (k = 0 → Keep W wr) ∧ (k = 1 → Keep W wr ∧ n ≤ 262144) ∧ (2 ≤ k → n ≤ 262144 ∧ er = 0 ∧ ∃ A9 n9 c9 rs A8 n8 c8, Got W wr H M O A9 n9 c9 rs A8 n8 c8) ∧ (3 ≤ k → ¬ (cl = true ∧ O ≠ []))) (fun r wr => r = restR n O er cl ∧ Turned (fun x => x = H + 5 ∨ x = H + 6) W wr ∧ (r = 0 → ∃ A9 n9 c9 rs A8 n8 c8, Got W wr H M O A9 n9 c9 rs A8 n8 c8)) bk 3 cc W (by omega) ⟨fun _ => Keep.refl W, by omega, by omega, by omega⟩ (fun k wr hk hr => ?_) (fun wr hr => ?_)).mono fun e w' he => ?_
  · obtain ⟨r0, r1, r2, r3⟩ := hr
    match k, hk with
    | 0, _ =>
      have kk := r0 rfl
      refine ⟨_, _, stay (Turned.of_keep kk) y0, te, ?_⟩
      refine (tells_any a1 a2 _ _ 1 (decide (262144 < n)) wr (ha1.keep kk) (ha2.keep kk) (enters_at Try.func43 (by kernel_rfl) rfl) (rest1 (H + 2) n c A _ rfl (hx.b2.keep kk))).mono fun e w' he => ?_
      obtain ⟨rfl, q, rfl⟩ := he
      refine ⟨_, rfl, fun e => ⟨by omega, fun _ => ⟨kk.drewN q, ?_⟩, by omega, by omega⟩, fun e => ⟨?_, Turned.of_keep (kk.drewN q), fun e2 => absurd e2 e⟩⟩
      · by_cases hl : 262144 < n
        · rw [decide_eq_true hl] at e; cases e
        · omega
      · by_cases hl : 262144 < n
        · rw [decide_eq_true hl, restR, if_pos hl]; rfl
        · rw [decide_eq_false hl] at e; exact absurd rfl e
    | 1, _ =>
      obtain ⟨kk, hn⟩ := r1 rfl
      refine ⟨_, _, stay (Turned.of_keep kk) y1, enters_at Try.func44 (by kernel_rfl) rfl, ?_⟩
      refine (rest2 W n c m c' A A' M O er (hx.keep kk) (h5.keep kk) (h6.keep kk) kk hW fun w' k2 => hch hn w' (kk.trans k2)).mono fun e w' he => ?_
      obtain ⟨rfl, hG⟩ := he
      refine ⟨er, rfl, fun e => ⟨by omega, by omega, fun _ => ⟨hn, e, hG⟩, by omega⟩, fun e => ⟨by rw [restR, if_neg (by omega), if_neg e], ?_, fun e2 => absurd e2 e⟩⟩
      obtain ⟨_, _, _, _, _, _, _, hG⟩ := hG
      exact hG.tn
    | 2, _ =>
      obtain ⟨hn, he0, A9, n9, c9, rs, A8, n8, c8, hG⟩ := r2 (by omega)
      refine ⟨_, _, stay hG.tn y2, te, ?_⟩
      refine (tells_any d1 d2 _ _ 1 (cl && decide (0 < n8)) wr (hd1.turned hG.tn (by omega)) (hd2.turned hG.tn (by omega)) (enters_at Try.func46 (by kernel_rfl) rfl) (rest3 (H + 4) (H + 6) n8 c8 A8 _ rfl (hx.b4.turned hG.tn (by omega)) hG.b6)).mono fun e w' he => ?_
      obtain ⟨rfl, q, rfl⟩ := he
      have hiff : (cl && decide (0 < n8)) = true ↔ (cl = true ∧ O ≠ []) := by
        rw [Bool.and_eq_true, decide_eq_true_iff]
        refine and_congr Iff.rfl ⟨fun h e => ?_, fun h => ?_⟩
        · have := hG.open_; rw [e] at this; simp at this; omega
        · rcases Nat.eq_zero_or_pos n8 with e | e
          · exact absurd (List.eq_nil_of_length_eq_zero (by have := hG.open_; omega)) h
          · exact e
      have hG2 := hG.later ((Keep.refl wr).drewN q)
      by_cases hb : (cl = true ∧ O ≠ [])
      · rw [hiff.2 hb]
        exact ⟨1, rfl, (fun e => by cases e), fun _ => ⟨by rw [restR, if_neg (by omega), if_pos he0, if_pos hb], hG2.tn, (fun e => by cases e)⟩⟩
      · have hf : (cl && decide (0 < n8)) = false := by
          cases hv : (cl && decide (0 < n8)) with
          | false => rfl
          | true => exact absurd (hiff.1 hv) hb
        rw [hf]
        exact ⟨0, rfl, fun _ => ⟨by omega, by omega, fun _ => ⟨hn, he0, _, _, _, _, _, _, _, hG2⟩, fun _ => hb⟩, fun e => absurd rfl e⟩
    | k + 3, hk => omega
  · obtain ⟨_, _, r2, r3⟩ := hr
    obtain ⟨hn, he0, hG⟩ := r2 (by omega)
    refine ⟨by rw [restR, if_neg (by omega), if_pos he0, if_neg (r3 (by omega))], ?_, fun _ => hG⟩
    obtain ⟨_, _, _, _, _, _, _, hG⟩ := hG
    exact hG.tn
  · obtain ⟨r, rfl, rfl, h2, h3⟩ := he
    exact ⟨rfl, h2, h3⟩
end
section
variable {w : World} {cl : Bool}
set_option maxRecDepth 100000 in
set_option maxHeartbeats 4000000 in
theorem restore_bad (g s : Int) (n c m c' : Nat) (A A' : Option Addr) (M : List (List Nat)) (O : List Nat) (er : Int)
    (hch : n ≤ 262144 → ∀ w', Keep w w' → Calls Try.prog 45 #[.slice A n c, .slice A' m c', .int .i64 g, .int .i64 s] w' (NewCh w' M O er)) (hr : restR n O er cl ≠ 0) :
    Calls Try.prog 11 #[.int .i64 g, .int .i64 s, .slice A n c, .slice A' m c', .bool cl] w fun e w' => e = .returned (.tuple #[.pointer none, .int .i64 (restR n O er cl)]) ∧ Keep w w' := by
  obtain ⟨re, hre⟩ : ∃ re, restR n O er cl = re := ⟨_, rfl⟩
  rw [hre] at hr ⊢
  have HR := Lib.hid hr
  have HRE := Lib.hid hre
  clear hr hre
  obtain ⟨H, hH⟩ : ∃ H, w.heap.size = H := ⟨_, rfl⟩
  obtain ⟨w1, e1, z1, k1, bx, h5, h6⟩ := rest_start w g s (.slice A n c) (.slice A' m c') cl
  rw [hH] at z1 bx h5 h6
  have K1 := Lib.hid k1
  have BX := Lib.hid bx
  have H5 := Lib.hid h5
  have H6 := Lib.hid h6
  have HCH := Lib.hid hch
  have HHH := Lib.hid hH
  have Z1 := Lib.hid z1
  have hmf : ∀ (fn : Fn) (first cap : Array Value) (w : World), (Instr.makeFunc fn first cap).run Try.prog w = .ok (.func fn first cap) w := fun _ _ _ _ => rfl
  clear k1 bx h5 h6 hch z1
  go_enter Try.func11, Try.ntmps11
  go_wp2_with fail
  refine (telling_box _ _ 1 _).mono ?_
  rintro e w2 ⟨a1, a2, rfl, k2, la1, la2, ha1, ha2⟩
  have K2 := Lib.hid k2
  have HA1 := Lib.hid ha1
  have HA2 := Lib.hid ha2
  have LA : Hid (H + 7 ≤ a1 ∧ H + 7 ≤ a2) := by have := Z1.out; exact ⟨by omega, by omega⟩
  clear k2 ha1 ha2 la1 la2 e1
  go_wp2_with fail
  refine (telling_box _ _ 1 _).mono ?_
  rintro e w3 ⟨d1, d2, rfl, k3, ld1, ld2, hd1, hd2⟩
  have K3 := Lib.hid k3
  have HD1 := Lib.hid hd1
  have HD2 := Lib.hid hd2
  have LD : Hid (H + 7 ≤ d1 ∧ H + 7 ≤ d2) := by have := Z1.out; have := K2.out.size; exact ⟨by omega, by omega⟩
  clear k3 hd1 hd2 ld1 ld2
  go_wp2_with fail
  obtain ⟨W, hW⟩ : ∃ W, w3.alloc (.cells #[.func (.func 84) #[] #[.pointer (some ⟨a1, 0, none⟩), .pointer (some ⟨a2, 0, none⟩)], .func (.func 44) #[] #[.pointer (some ⟨H + 2, 0, none⟩), .pointer (some ⟨H + 3, 0, none⟩), .pointer (some ⟨H, 0, none⟩), .pointer (some ⟨H + 1, 0, none⟩), .pointer (some ⟨H + 5, 0, none⟩), .pointer (some ⟨H + 6, 0, none⟩)], .func (.func 84) #[] #[.pointer (some ⟨d1, 0, none⟩), .pointer (some ⟨d2, 0, none⟩)]] 86) = W := ⟨_, rfl⟩
  have kW : Keep w3 W := by rw [← hW]; exact (Keep.refl w3).alloc _ _
  have y0 : W.cell? ⟨w3.heap.size, 0, none⟩ = some (.func (.func 84) #[] #[.pointer (some ⟨a1, 0, none⟩), .pointer (some ⟨a2, 0, none⟩)]) := by rw [← hW]; exact alloc_cells rfl
  have y1 : W.cell? ⟨w3.heap.size, 1, none⟩ = some (.func (.func 44) #[] #[.pointer (some ⟨H + 2, 0, none⟩), .pointer (some ⟨H + 3, 0, none⟩), .pointer (some ⟨H, 0, none⟩), .pointer (some ⟨H + 1, 0, none⟩), .pointer (some ⟨H + 5, 0, none⟩), .pointer (some ⟨H + 6, 0, none⟩)]) := by rw [← hW]; exact alloc_cells rfl
  have y2 : W.cell? ⟨w3.heap.size, 2, none⟩ = some (.func (.func 84) #[] #[.pointer (some ⟨d1, 0, none⟩), .pointer (some ⟨d2, 0, none⟩)]) := by rw [← hW]; exact alloc_cells rfl
  have k13 : Keep w1 W := (K2.out.trans K3.out).trans kW
  have hlo : H + 7 ≤ w3.heap.size ∧ H + 7 ≤ W.heap.size := by have := Z1.out; have := k13.size; have := (K2.out.trans K3.out).size; exact ⟨by omega, by omega⟩
  have HF := Lib.hid (rest_first W w3.heap.size 3 n c m c' a1 a2 d1 d2 A A' M O er (BX.out.keep k13) (H5.out.keep k13) (H6.out.keep k13) hlo.2 (fun hn w' kk => HCH.out hn w' ((K1.out.trans k13).trans kk)) (HA1.out.keep (K3.out.trans kW)) (HA2.out.keep (K3.out.trans kW)) (HD1.out.keep kW) (HD2.out.keep kW) ⟨LA.out.1, LA.out.2, LD.out.1, LD.out.2, hlo.1⟩ y0 y1 y2)
  have KW : Hid (Keep w W) := K1.out.trans k13
  have BW := Lib.hid (BX.out.keep k13)
  have LW : Hid (H + 7 ≤ W.heap.size) := hlo.2
  clear kW y0 y1 y2 k13 hlo HA1 HA2 LA HD1 HD2 LD H5 H6 BX HCH
  try rw [hW]
  refine HF.out.mono ?_
  rw [HRE.out]
  rintro e w5 ⟨rfl, t5, _⟩
  have K5 : Hid (Keep w w5) := t5.keep KW.out fun i e => by have := HHH.out; omega
  have hr := HR.out
  clear t5 HF hW BW HRE
  go_wp2_with fail
  go_ret2
  exact ⟨rfl, K5.out⟩
set_option maxRecDepth 100000 in
set_option maxHeartbeats 8000000 in
theorem restore_good (G S P : Nat) (hz : SizeS G S P) (n c m c' B1 B2 : Nat) (A A' : Option Addr) (xs cs : List Nat) (M : List (List Nat)) (O : List Nat) (er : Int) (hB1 : B1 ≤ w.heap.size) (hB2 : B2 ≤ w.heap.size) (hx : Bytes w B1 A n xs) (hc : NatsAt w B2 A' m cs) (hm : m ≤ 17592186044416)
    (hfl : M.flatten.length ≤ 262144) (hM : M.length ≤ 262144)
    (hch : n ≤ 262144 → ∀ w', Keep w w' → Calls Try.prog 45 #[.slice A n c, .slice A' m c', .int .i64 (G : Int), .int .i64 (S : Int)] w' (NewCh w' M O er)) (hr : restR n O er cl = 0) (hn : n ≤ 262144) :
    Calls Try.prog 11 #[.int .i64 (G : Int), .int .i64 (S : Int), .slice A n c, .slice A' m c', .bool cl] w fun e w' => ∃ b F, e = .returned (.tuple #[.pointer (some ⟨b, 0, none⟩), .int .i64 0]) ∧ SrcR w' F b G S xs cs M cl ∧ (∀ i, F i → w.heap.size ≤ i) ∧ Keep w w' := by
  obtain ⟨g, hgg⟩ : ∃ g : Int, (G : Int) = g := ⟨_, rfl⟩
  obtain ⟨s, hss⟩ : ∃ s : Int, (S : Int) = s := ⟨_, rfl⟩
  rw [hgg, hss] at hch ⊢
  have HGG := Lib.hid hgg
  have HSS := Lib.hid hss
  have HR := Lib.hid hr
  have HX := Lib.hid hx
  have HC := Lib.hid hc
  have HB := Lib.hid (And.intro hB1 hB2)
  have HFL := Lib.hid hfl
  have HML := Lib.hid hM
  clear hr hx hc hB1 hB2 hgg hss hfl hM
  obtain ⟨H, hH⟩ : ∃ H, w.heap.size = H := ⟨_, rfl⟩
  obtain ⟨w1, e1, z1, k1, bx, h5, h6⟩ := rest_start w g s (.slice A n c) (.slice A' m c') cl
  rw [hH] at z1 bx h5 h6
  have K1 := Lib.hid k1
  have BX := Lib.hid bx
  have H5 := Lib.hid h5
  have H6 := Lib.hid h6
  have HCH := Lib.hid hch
  have HHH := Lib.hid hH
  have Z1 := Lib.hid z1
  have hmf : ∀ (fn : Fn) (first cap : Array Value) (w : World), (Instr.makeFunc fn first cap).run Try.prog w = .ok (.func fn first cap) w := fun _ _ _ _ => rfl
  clear k1 bx h5 h6 hch z1
  go_enter Try.func11, Try.ntmps11
  go_wp2_with fail
  refine (telling_box _ _ 1 _).mono ?_
  rintro e w2 ⟨a1, a2, rfl, k2, la1, la2, ha1, ha2⟩
  have K2 := Lib.hid k2
  have HA1 := Lib.hid ha1
  have HA2 := Lib.hid ha2
  have LA : Hid (H + 7 ≤ a1 ∧ H + 7 ≤ a2) := by have := Z1.out; exact ⟨by omega, by omega⟩
  clear k2 ha1 ha2 la1 la2 e1
  go_wp2_with fail
  refine (telling_box _ _ 1 _).mono ?_
  rintro e w3 ⟨d1, d2, rfl, k3, ld1, ld2, hd1, hd2⟩
  have K3 := Lib.hid k3
  have HD1 := Lib.hid hd1
  have HD2 := Lib.hid hd2
  have LD : Hid (H + 7 ≤ d1 ∧ H + 7 ≤ d2) := by have := Z1.out; have := K2.out.size; exact ⟨by omega, by omega⟩
  clear k3 hd1 hd2 ld1 ld2
  go_wp2_with fail
  obtain ⟨W, hW⟩ : ∃ W, w3.alloc (.cells #[.func (.func 84) #[] #[.pointer (some ⟨a1, 0, none⟩), .pointer (some ⟨a2, 0, none⟩)], .func (.func 44) #[] #[.pointer (some ⟨H + 2, 0, none⟩), .pointer (some ⟨H + 3, 0, none⟩), .pointer (some ⟨H, 0, none⟩), .pointer (some ⟨H + 1, 0, none⟩), .pointer (some ⟨H + 5, 0, none⟩), .pointer (some ⟨H + 6, 0, none⟩)], .func (.func 84) #[] #[.pointer (some ⟨d1, 0, none⟩), .pointer (some ⟨d2, 0, none⟩)]] 86) = W := ⟨_, rfl⟩
  have kW : Keep w3 W := by rw [← hW]; exact (Keep.refl w3).alloc _ _
  have y0 : W.cell? ⟨w3.heap.size, 0, none⟩ = some (.func (.func 84) #[] #[.pointer (some ⟨a1, 0, none⟩), .pointer (some ⟨a2, 0, none⟩)]) := by rw [← hW]; exact alloc_cells rfl
  have y1 : W.cell? ⟨w3.heap.size, 1, none⟩ = some (.func (.func 44) #[] #[.pointer (some ⟨H + 2, 0, none⟩), .pointer (some ⟨H + 3, 0, none⟩), .pointer (some ⟨H, 0, none⟩), .pointer (some ⟨H + 1, 0, none⟩), .pointer (some ⟨H + 5, 0, none⟩), .pointer (some ⟨H + 6, 0, none⟩)]) := by rw [← hW]; exact alloc_cells rfl
  have y2 : W.cell? ⟨w3.heap.size, 2, none⟩ = some (.func (.func 84) #[] #[.pointer (some ⟨d1, 0, none⟩), .pointer (some ⟨d2, 0, none⟩)]) := by rw [← hW]; exact alloc_cells rfl
  have k13 : Keep w1 W := (K2.out.trans K3.out).trans kW
  have hlo : H + 7 ≤ w3.heap.size ∧ H + 7 ≤ W.heap.size := by have := Z1.out; have := k13.size; have := (K2.out.trans K3.out).size; exact ⟨by omega, by omega⟩
  have HF := Lib.hid (rest_first W w3.heap.size 3 n c m c' a1 a2 d1 d2 A A' M O er (BX.out.keep k13) (H5.out.keep k13) (H6.out.keep k13) hlo.2 (fun hn w' kk => HCH.out hn w' ((K1.out.trans k13).trans kk)) (HA1.out.keep (K3.out.trans kW)) (HA2.out.keep (K3.out.trans kW)) (HD1.out.keep kW) (HD2.out.keep kW) ⟨LA.out.1, LA.out.2, LD.out.1, LD.out.2, hlo.1⟩ y0 y1 y2)
  have KW : Hid (Keep w W) := K1.out.trans k13
  have BW := Lib.hid (BX.out.keep k13)
  have LW : Hid (H + 7 ≤ W.heap.size) := hlo.2
  clear kW y0 y1 y2 k13 hlo HA1 HA2 LA HD1 HD2 LD H5 H6 BX HCH
  try rw [hW]
  refine HF.out.mono ?_
  rw [HR.out]
  rintro e w5 ⟨rfl, t5, hG⟩
  obtain ⟨A9, n9, c9, rs, A8, n8, c8, gt⟩ := hG rfl
  have K5 : Hid (Keep w w5) := t5.keep KW.out fun i e => by have := HHH.out; omega
  have GT := Lib.hid gt
  have B5 := Lib.hid (BW.out.turned t5 fun i e => by omega)
  clear t5 hG gt HF hW BW
  go_wp2_with fail
  have X0 : Hid (∀ wq, Keep w5 wq → wq.cell? ⟨H, 0, none⟩ = some (.int .i64 g)) := fun wq k => (B5.out.keep k).b0.cell
  have X1 : Hid (∀ wq, Keep w5 wq → wq.cell? ⟨H + 1, 0, none⟩ = some (.int .i64 s)) := fun wq k => (B5.out.keep k).b1.cell
  have X2 : Hid (∀ wq, Keep w5 wq → wq.cell? ⟨H + 2, 0, none⟩ = some (.slice A n c)) := fun wq k => (B5.out.keep k).b2.cell
  have X3 : Hid (∀ wq, Keep w5 wq → wq.cell? ⟨H + 3, 0, none⟩ = some (.slice A' m c')) := fun wq k => (B5.out.keep k).b3.cell
  have X4 : Hid (∀ wq, Keep w5 wq → wq.cell? ⟨H + 4, 0, none⟩ = some (.bool cl)) := fun wq k => (B5.out.keep k).b4.cell
  refine wp_region_noPanic ?_
  refine wp_region_held_drew (S := fun wz => Keep w5 wz) (by kernel_rfl) (Keep.drew (Keep.refl w5)) (fun hHeld => ?_)
  refine wpAnyH_take (i := 0) (v := ?_) rfl (by kernel_rfl) (by kernel_rfl) (by kernel_rfl) (fun _ _ _ h => h) (Or.inl ⟨by rfl, ?_⟩) hHeld ?_
  rotate_left
  · intro wq hSw
    have q0 := X0.out wq hSw
    go_simp
    all_goals with_reducible rfl
  try simp only [Act.put, List.getElem_toArray, List.getElem_cons_succ, List.getElem_cons_zero, List.setIfInBounds_toArray, List.set_cons_zero, List.set_cons_succ]
  refine wpAnyH_take (i := 1) (v := ?_) rfl (by kernel_rfl) (by kernel_rfl) (by kernel_rfl) (fun _ _ _ h => h) (Or.inl ⟨by rfl, ?_⟩) hHeld ?_
  rotate_left
  · intro wq hSw
    have q0 := X1.out wq hSw
    go_simp
    all_goals with_reducible rfl
  try simp only [Act.put, List.getElem_toArray, List.getElem_cons_succ, List.getElem_cons_zero, List.setIfInBounds_toArray, List.set_cons_zero, List.set_cons_succ]
  refine wpAnyH_take (i := 2) (v := ?_) rfl (by kernel_rfl) (by kernel_rfl) (by kernel_rfl) (fun _ _ _ h => h) (Or.inl ⟨by rfl, ?_⟩) hHeld ?_
  rotate_left
  · intro wq hSw
    have q0 := X2.out wq hSw
    go_simp
    all_goals with_reducible rfl
  try simp only [Act.put, List.getElem_toArray, List.getElem_cons_succ, List.getElem_cons_zero, List.setIfInBounds_toArray, List.set_cons_zero, List.set_cons_succ]
  refine wpAnyH_take (i := 4) (v := ?_) rfl (by kernel_rfl) (by kernel_rfl) (by kernel_rfl) (fun _ _ _ h => h) (Or.inl ⟨by rfl, ?_⟩) hHeld ?_
  rotate_left
  · intro wq hSw
    have q0 := X3.out wq hSw
    go_simp
    all_goals with_reducible rfl
  try simp only [Act.put, List.getElem_toArray, List.getElem_cons_succ, List.getElem_cons_zero, List.setIfInBounds_toArray, List.set_cons_zero, List.set_cons_succ]
  refine wpAnyH_take (i := 6) (v := ?_) rfl (by kernel_rfl) (by kernel_rfl) (by kernel_rfl) (fun _ _ _ h => h) (Or.inl ⟨by rfl, ?_⟩) hHeld ?_
  rotate_left
  · intro wq hSw
    have q0 := X4.out wq hSw
    go_simp
    all_goals with_reducible rfl
  try simp only [Act.put, List.getElem_toArray, List.getElem_cons_succ, List.getElem_cons_zero, List.setIfInBounds_toArray, List.set_cons_zero, List.set_cons_succ]
  refine wpAnyH_ready (rs := [3]) (by kernel_rfl) (by simp) ?_
  refine AllReadyH.cons rfl (fun K hK => ?_) AllReadyH.nil
  go_simp
  refine (clone_any B1 n c A xs _ (HX.out.keep HB.out.1 (K5.out.trans hHeld)) (by have := HB.out.1; have := (K5.out.trans hHeld).size; omega) (by omega)).mono ?_
  rintro e w6 ⟨A6, n6, c6, rfl, o6, k6⟩
  have O6 := Lib.hid o6
  have kk6 : Keep w5 w6 := Keep.trans hHeld k6
  clear o6
  refine hK.out _ _ kk6 (fun hHeld => ?_)
  clear hK K
  try simp only [Act.put, List.getElem_toArray, List.getElem_cons_succ, List.getElem_cons_zero, List.setIfInBounds_toArray, List.set_cons_zero, List.set_cons_succ]
  refine wpAnyH_ready (rs := [5]) (by kernel_rfl) (by simp) ?_
  refine AllReadyH.cons rfl (fun K hK => ?_) AllReadyH.nil
  go_simp
  refine (cloneints_any B2 m c' A' cs _ (HC.out.keep HB.out.2 (K5.out.trans hHeld)) (by have := HB.out.2; have := (K5.out.trans hHeld).size; omega) hm).mono ?_
  rintro e w7 ⟨A7, n7, c7, rfl, o7, k7⟩
  have O7 := Lib.hid o7
  have K7 := Lib.hid k7
  have kk7 : Keep w5 w7 := Keep.trans hHeld k7
  clear o7 k7
  refine hK.out _ _ kk7 (fun hHeld => ?_)
  clear hK K
  try simp only [Act.put, List.getElem_toArray, List.getElem_cons_succ, List.getElem_cons_zero, List.setIfInBounds_toArray, List.set_cons_zero, List.set_cons_succ]
  refine wpAnyH_take (i := 7) (v := ?_) rfl (by kernel_rfl) (by kernel_rfl) (by kernel_rfl) (fun _ _ _ h => h) (Or.inl ⟨by rfl, ?_⟩) hHeld ?_
  rotate_left
  · intro wq hSw
    go_simp
    all_goals with_reducible rfl
  try simp only [Act.put, List.getElem_toArray, List.getElem_cons_succ, List.getElem_cons_zero, List.setIfInBounds_toArray, List.set_cons_zero, List.set_cons_succ]
  obtain ⟨w8, hw8⟩ : ∃ w8, w7.alloc (.cells #[.int .i64 g, .int .i64 s, .slice A6 n6 c6, .slice A7 n7 c7, .slice none 0 0, .bool cl] 92) = w8 := ⟨_, rfl⟩
  have kk8 : Keep w5 w8 := Keep.trans kk7 (by rw [← hw8]; exact (Keep.refl w7).alloc _ _)
  refine wpAnyH_ready (rs := [8]) (by kernel_rfl) (by simp) ?_
  refine AllReadyH.cons rfl (fun K hK => ?_) AllReadyH.nil
  go_simp
  try rw [hw8]
  refine hK.out _ _ kk8 (fun hHeld => ?_)
  clear hK K
  try simp only [Act.put, List.getElem_toArray, List.getElem_cons_succ, List.getElem_cons_zero, List.setIfInBounds_toArray, List.set_cons_zero, List.set_cons_succ]
  refine wpAnyH_take (i := 9) (v := ?_) rfl (by kernel_rfl) (by kernel_rfl) (by kernel_rfl) (fun _ _ _ h => h) (Or.inl ⟨by rfl, ?_⟩) hHeld ?_
  rotate_left
  · intro wq hSw
    go_simp
    all_goals with_reducible rfl
  try simp only [Act.put, List.getElem_toArray, List.getElem_cons_succ, List.getElem_cons_zero, List.setIfInBounds_toArray, List.set_cons_zero, List.set_cons_succ]
  refine wpAnyH_done (by kernel_rfl) ?_ _
  refine NoPanic.normal ?_
  clear hHeld
  obtain ⟨N, hN⟩ : ∃ N, w7.heap.size = N := ⟨_, rfl⟩
  have hs5 : w5.heap.size ≤ w6.heap.size ∧ w6.heap.size ≤ w7.heap.size := ⟨kk6.size, K7.out.size⟩
  have a6 := (O6.out.keep K7.out)
  have o6lt := O6.out.blt
  have o7lt := O7.out.blt
  have k78 : Keep w7 w8 := by rw [← hw8]; exact (Keep.refl w7).alloc _ _
  have SA : Hid (SrcA w8 (fun i => (Value.slice A6 n6 c6).ownBlock = some i ∨ (Value.slice A7 n7 c7).ownBlock = some i ∨ i = N) N G S A6 n6 c6 A7 n7 c7 none 0 0 xs cs [] cl) := by
    refine ⟨?_, (a6.keep k78).lower (Nat.zero_le _), (O7.out.keep k78).lower (Nat.zero_le _), OwnI.none_ _ _, Or.inr (Or.inr rfl), fun k e => ⟨Or.inl e, ?_⟩, fun k e => ⟨Or.inr (Or.inl e), ?_⟩, (fun k e => by cases e), fun k e1 e2 => ?_, (fun k _ e => by cases e), (fun k _ e => by cases e), fun i hi => ?_⟩
    · rw [← hw8, ← hN, HGG.out, HSS.out]; exact heap_alloc_new w7 _
    · have := o6lt k e; omega
    · have := o7lt k e; omega
    · have := o6lt k e1; have := o7lt k e2; omega
    · have hz8 : w8.heap.size = w7.heap.size + 1 := by rw [← hw8]; simp
      rcases hi with e | e | e
      · have := o6lt i e; omega
      · have := o7lt i e; omega
      · omega
  have FL : Hid (∀ i, ((Value.slice A6 n6 c6).ownBlock = some i ∨ (Value.slice A7 n7 c7).ownBlock = some i ∨ i = N) → w5.heap.size ≤ i) := fun i hi => by
    rcases hi with e | e | e
    · exact (o6lt i e).1
    · have := o7lt i e; omega
    · omega
  obtain ⟨F, SA, FL⟩ : ∃ F : Nat → Prop, Hid (SrcA w8 F N G S A6 n6 c6 A7 n7 c7 none 0 0 xs cs [] cl) ∧ Hid (∀ i, F i → w5.heap.size ≤ i) := ⟨_, SA, FL⟩
  have K8 : Hid (Keep w5 w8) := kk8
  have x5 := (GT.out.later kk8).b5.cell
  have hcnt : n9 = M.length := by rw [← GT.out.is, rowsXs, List.length_map]; exact GT.out.rows.1.symm
  have HCNT := Lib.hid hcnt
  have hn9 : n9 ≤ 262144 := by have := HML.out; omega
  clear o6lt o7lt a6 hs5 hw8 k78 hHeld kk6 kk7 kk8 B5 X0 X1 X2 X3 X4 hcnt
  rw [hN]
  go_wp2_with fail
  go_loopw [39] (fun iv wr => ∃ (j : Nat) (Fr : Nat → Prop), j ≤ n9 ∧ iv = .int .i64 j ∧ SrcR wr Fr N G S xs cs (M.take j) cl ∧ Turned F w8 wr ∧ ∀ i, Fr i → F i ∨ w8.heap.size ≤ i) (fun iv _ => n9 - (intOf iv).toNat)
  case atStart => exact ⟨0, F, by omega, rfl, ⟨_, _, _, _, _, _, _, _, _, SA.out⟩, Turned.refl _ _, fun i hi => Or.inl hi⟩
  case round =>
    obtain ⟨j, Fr, hj, rfl, sr, tr, fr⟩ := hrel
    have SR := Lib.hid sr
    have TR := Lib.hid tr
    have FR := Lib.hid fr
    clear sr fr SA
    by_cases hlt : j < n9
    · obtain ⟨b9, o9, q, rfl, hb9, hq, hc9, hq2⟩ := ((GT.out.rows.turned (Turned.of_keep (F := fun _ => False) K8.out) fun _ _ e => e).turned tr fun x hx e => by
        have h1 := FL.out x e
        omega).at_ hlt
      obtain ⟨qA, qn, qc, qx⟩ := q
      have hc9 : wr.cell? ⟨b9, o9 + j, none⟩ = some (.slice qA qn qc) := hc9
      have hMj : M[j]? = some qx := by rw [← GT.out.is, rowsXs, List.getElem?_map, hq]; rfl
      have hqn : qx.length = qn := hq2.1
      have htk : M.take (j + 1) = M.take j ++ [qx] := by rw [List.take_add_one, hMj]; rfl
      have hle : (M.take j).flatten.length + qx.length ≤ 262144 := by
        have h1 := startN_succ hMj
        have h2 := startN_le M (j + 1)
        have h3 := HFL.out
        rw [startN, startN] at h1
        rw [startN] at h2
        omega
      have HE := Lib.hid (end_any SR.out qn (M.take j).flatten.length rfl (by rw [List.length_take]; have := HML.out; omega) (by omega) (M.take (j + 1)) (by rw [htk, endsN_more, hqn]))
      have e1 : (0 : Int) ≤ (j : Int) := by omega
      have e2 : (j : Int) < (n9 : Int) := by omega
      clear tr hq hq2 hMj hqn htk hle
      go_wp2_with fail
      refine HE.out.mono ?_
      rintro e w10 ⟨rfl, p10⟩
      have P10 := Lib.hid (Wrote.trans TR.out FR.out p10)
      clear p10 hc9
      go_wp2_with fail
      go_roundw
      case rel =>
        obtain ⟨F', q1, q2, q3⟩ := P10.out
        exact ⟨j + 1, F', by omega, by go_num, q1, q2, q3⟩
      case measure => simp [intOf]; omega
    · obtain rfl : j = n9 := by omega
      have KR : Hid (Keep w wr) := tr.keep (K5.out.trans K8.out) fun i e => Nat.le_trans K5.out.size (FL.out i e)
      have SX : Hid (SrcR wr Fr N G S xs cs M cl) := by
        have := SR.out
        rw [HCNT.out, List.take_length] at this
        exact this
      have FX : Hid (∀ i, Fr i → w.heap.size ≤ i) := fun i hi => by
        rcases FR.out i hi with e | e
        · exact Nat.le_trans K5.out.size (FL.out i e)
        · exact Nat.le_trans (K5.out.trans K8.out).size e
      clear tr
      go_wp2_with fail
      go_ret2
      exact ⟨N, Fr, rfl, SX.out, FX.out, KR.out⟩
end
end Go.Proofs.Ytcafofffgmaepaa
