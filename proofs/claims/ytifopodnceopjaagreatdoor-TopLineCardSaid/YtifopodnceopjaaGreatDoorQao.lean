/- The landed frames: the closures that read. -/
import Derived.Test.YtifopodnceopjaaGreatDoorQab
import Derived.Test.YtifopodnceopjaaGreatDoorQai
import Derived.Laws.EntriesVeiled
import Derived.Test.YtifopodnceopjaaGreatDoorQaa
import Derived.Deep.DeepCutAuto
import Derived.Deep.CutBlock
import Derived.Great.BuildSlice
namespace Go.Proofs.YtifopodnceopjaaGreatDoor
open Go.RowKit Fr
set_option linter.unusedVariables false
set_option linter.unusedSimpArgs false
/-- What is read, and what is left: nothing, if there was too little. -/
def nxtN (s : Nat) (o : Option (List Nat)) : Nat := match o with
  | some L => if s ≤ L.length then valN (L.take s) else 0
  | none => 0
def nxtB (n : Nat) (o : Option (List Nat)) : List Nat := match o with
  | some L => if n ≤ L.length then L.take n else []
  | none => []
def nxtO (s : Nat) (o : Option (List Nat)) : Option (List Nat) := match o with
  | some L => if s ≤ L.length then some (L.drop s) else none
  | none => none
def goO {α : Type} (o : Option (List Nat)) (p : Pa α) : Option (α × List Nat) := match o with
  | some L => p L
  | none => none
theorem go_num {α : Type} (s : Nat) (o : Option (List Nat)) (q : Nat → Pa α) : goO o ((numP s).bind q) = goO (nxtO s o) (q (nxtN s o)) := by
  cases o with
  | none => rfl
  | some L =>
    show (numP s).bind q L = goO (nxtO s (some L)) (q (nxtN s (some L)))
    unfold Pa.bind numP nxtO nxtN
    by_cases h : s ≤ L.length
    · simp only [if_pos h]; rfl
    · simp only [if_neg h]; rfl
theorem go_take {α : Type} (s : Nat) (o : Option (List Nat)) (q : List Nat → Pa α) : goO o ((takeP s).bind q) = goO (nxtO s o) (q (nxtB s o)) := by
  cases o with
  | none => rfl
  | some L =>
    show (takeP s).bind q L = goO (nxtO s (some L)) (q (nxtB s (some L)))
    unfold Pa.bind takeP nxtO nxtB
    by_cases h : s ≤ L.length
    · simp only [if_pos h]; rfl
    · simp only [if_neg h]; rfl
theorem nxtN_lt (s : Nat) (o : Option (List Nat)) (h : ∀ L, o = some L → AllB L) (hs : s ≤ 8) : nxtN s o < 256 ^ s := by
  unfold nxtN
  cases o with
  | none => exact Nat.pow_pos (by decide)
  | some L =>
    dsimp only
    split
    · have h1 := valN_lt (L.take s) ((h L rfl).take s)
      rw [List.length_take, Nat.min_eq_left (by assumption)] at h1
      exact h1
    · exact Nat.pow_pos (by decide)
theorem wread_same (F : Nat → Prop) (g : Nat) (L : List Nat) (s : Int) (w : World) (h : ReadR w F g L) :
    Calls Tryz.prog 110 #[.pointer (some ⟨g, 0, none⟩), .int .i64 s] w fun e w' => e = .returned (.tuple #[.int .u64 (readVal L s : Nat), .int .i64 (readErr L s)]) ∧ ReadR w' F g (readLeft L s) ∧ w.grownBy w' (some g) := by
  by_cases hs : s < 1 ∨ 8 < s
  · have e1 : readErr L s = 1 := by rw [readErr, if_pos hs]
    have e2 : readVal L s = 0 := by rw [readVal, e1]; rfl
    have e3 : readLeft L s = L := by rw [readLeft, e1]; rfl
    rw [e1, e2, e3]
    exact (wread_out F g L s hs w h).mono fun e w' hw => ⟨hw.1, hw.2 ▸ h, hw.2 ▸ World.grownBy.refl w _⟩
  · have e : s = (s.toNat : Int) := by omega
    by_cases hl : L.length < s.toNat
    · have e1 : readErr L s = 4 := by rw [readErr, if_neg hs, if_pos hl]
      have e2 : readVal L s = 0 := by rw [readVal, e1]; rfl
      have e3 : readLeft L s = L := by rw [readLeft, e1]; rfl
      rw [e1, e2, e3]
      have h2 := wread_short F g L s.toNat (by omega) (by omega) hl w h
      rw [← e] at h2
      exact h2.mono fun e w' hw => ⟨hw.1, hw.2.1, hw.2.2⟩
    · have e1 : readErr L s = 0 := by rw [readErr, if_neg hs, if_neg hl]
      have e2 : readVal L s = valN (L.take s.toNat) := by rw [readVal, e1]; rfl
      have e3 : readLeft L s = L.drop s.toNat := by rw [readLeft, e1]; rfl
      rw [e1, e2, e3]
      have h2 := wread_in F g L s.toNat (by omega) (by omega) (by omega) w h
      rw [← e] at h2
      exact h2.mono fun e w' hw => ⟨hw.1, hw.2.1, hw.2.2⟩
theorem wtake_same (F : Nat → Prop) (g : Nat) (L : List Nat) (s : Int) (w : World) (h : ReadR w F g L) :
    Calls Tryz.prog 112 #[.pointer (some ⟨g, 0, none⟩), .int .i64 s] w fun e w' => ∃ A n c, e = .returned (.tuple #[.slice A n c, .int .i64 (takeErr L s)]) ∧ Own w' w.heap.size 5 A n c (takeVal L s) ∧ ReadR w' F g (takeLeft L s) ∧ w.grownBy w' (some g) := by
  by_cases hs : s < 0
  · have e1 : takeErr L s = 1 := by rw [takeErr, if_pos hs]
    have e2 : takeVal L s = [] := by rw [takeVal, e1]; rfl
    have e3 : takeLeft L s = L := by rw [takeLeft, e1]; rfl
    rw [e1, e2, e3]
    exact (wtake_out F g L s hs w h).mono fun e w' hw => ⟨none, 0, 0, hw.1, Own.none_ _ _ _, hw.2 ▸ h, hw.2 ▸ World.grownBy.refl w _⟩
  · have e : s = (s.toNat : Int) := by omega
    by_cases hl : L.length < s.toNat
    · have e1 : takeErr L s = 4 := by rw [takeErr, if_neg hs, if_pos hl]
      have e2 : takeVal L s = [] := by rw [takeVal, e1]; rfl
      have e3 : takeLeft L s = L := by rw [takeLeft, e1]; rfl
      rw [e1, e2, e3]
      have h2 := wtake_short F g L s.toNat hl w h
      rw [← e] at h2
      exact h2.mono fun e w' hw => ⟨none, 0, 0, hw.1, Own.none_ _ _ _, hw.2.1, hw.2.2⟩
    · have e1 : takeErr L s = 0 := by rw [takeErr, if_neg hs, if_neg hl]
      have e2 : takeVal L s = L.take s.toNat := by rw [takeVal, e1]; rfl
      have e3 : takeLeft L s = L.drop s.toNat := by rw [takeLeft, e1]; rfl
      rw [e1, e2, e3]
      have h2 := wtake_in F g L s.toNat (by omega) (by have := h.bound; omega) w h
      rw [← e] at h2
      exact h2.mono fun e w' ⟨A, n, c, q1, q2, q3, q4⟩ => ⟨A, n, c, q1, q2, q3.1, q4⟩
/-- The reader that the closures share: its error in cell ge, itself in cell gr; F are its blocks, all below N. -/
def RdS (w : World) (F : Nat → Prop) (N ge gr : Nat) (o : Option (List Nat)) : Prop :=
  F ge ∧ (∀ b, F b → b < N) ∧ N ≤ w.heap.size ∧ ¬ F gr ∧ ∃ (g : Nat) (F1 : Nat → Prop) (L : List Nat) (e : Int), w.heap[ge]? = some (.cells #[.int .i64 e] 29 (0, 0)) ∧ w.cell? ⟨gr, 0, none⟩ = some (.pointer (some ⟨g, 0, none⟩)) ∧ ReadR w F1 g L ∧ (∀ b, F1 b → F b ∧ b ≠ ge) ∧
    (match o with | some L' => e = 0 ∧ L' = L | none => e ≠ 0)
theorem RdS.all {w : World} {F : Nat → Prop} {N ge gr : Nat} {o : Option (List Nat)} (h : RdS w F N ge gr o) : ∀ L, o = some L → AllB L := by
  intro L hL
  obtain ⟨_, _, _, _, g, F1, L', e, _, _, hr, _, hm⟩ := h
  rw [hL] at hm
  rw [hm.2]
  exact hr.all
theorem ReadR.turned {w w' : World} {F G : Nat → Prop} {g : Nat} {L : List Nat} (h : ReadR w F g L) (k : Turned G w w') (hn : ∀ b, F b → ¬ G b) : ReadR w' F g L := by
  obtain ⟨h1, h2, h3, A, c, h4, h5, h6⟩ := h
  have hb : ∀ b, F b → w'.heap[b]? = w.heap[b]? := fun b hb => k.block b (h2 b hb) (hn b hb)
  refine ⟨h1, fun b hb => Nat.lt_of_lt_of_le (h2 b hb) k.size, h3, A, c, by rw [hb g h1]; exact h4, h5, fun hp => ?_⟩
  obtain ⟨b, off, e, hf, hne, hc⟩ := h6 hp
  refine ⟨b, off, e, hf, hne, fun i hi => ?_⟩
  rw [← hc i hi]
  simp only [World.cell?, hb b hf]
theorem RdS.turned {w w' : World} {F G : Nat → Prop} {N ge gr : Nat} {o : Option (List Nat)} (h : RdS w F N ge gr o) (k : Turned G w w') (hn : ∀ b, F b → ¬ G b) (hg : ¬ G gr) : RdS w' F N ge gr o := by
  obtain ⟨h1, h2, h0, h3, g, F1, L, e, h4, h5, h6, h7, h8⟩ := h
  exact ⟨h1, h2, Nat.le_trans h0 k.size, h3, g, F1, L, e, (k.block ge (Nat.lt_of_lt_of_le (h2 ge h1) h0) (hn ge h1)).trans h4, k.cell h5 hg, h6.turned k (fun b hb => hn b (h7 b hb).1), h7, h8⟩
theorem RdS.keep {w w' : World} {F : Nat → Prop} {N ge gr : Nat} {o : Option (List Nat)} (h : RdS w F N ge gr o) (k : Keep w w') : RdS w' F N ge gr o :=
  h.turned (G := fun _ => False) (Turned.of_keep k) (fun _ _ e => e) (fun e => e)
/-- A value in an error's cell. -/
theorem RdS.put {F F1 : Nat → Prop} {w w2 : World} {N ge gr g : Nat} {e0 e : Int} {L2 : List Nat} (hF : ∀ b, F b → b < N) (hN : N ≤ w.heap.size) (hge : F ge) (hgr : ¬ F gr) (hge2 : w.heap[ge]? = some (.cells #[.int .i64 e0] 29 (0, 0))) (hc : w.cell? ⟨gr, 0, none⟩ = some (.pointer (some ⟨g, 0, none⟩)))
    (hg : F g) (hgne : g ≠ ge) (gr2 : w.grownBy w2 (some g)) (r2 : ReadR w2 F1 g L2) (h2 : ∀ b, F1 b → F b ∧ b ≠ ge) (o : Option (List Nat)) (ho : match o with | some L' => e = 0 ∧ L' = L2 | none => e ≠ 0) :
    w2.heap[ge]? = some (.cells #[.int .i64 e0] 29 (0, 0)) ∧ RdS (w2.setCell ⟨ge, 0, none⟩ (.int .i64 e)) F N ge gr o ∧ Turned F w (w2.setCell ⟨ge, 0, none⟩ (.int .i64 e)) := by
  have hgl := hF ge hge
  have hgrl : gr < w.heap.size := World.block_lt_of_cell? w _ hc
  have c2 : w2.heap[ge]? = some (.cells #[.int .i64 e0] 29 (0, 0)) := (gr2.block ge (by omega) (fun e => by injection e with e; exact hgne e.symm)).trans hge2
  have T : Turned F w w2 := Turned.of_grown gr2 (fun i hi => by injection hi with hi; rw [← hi]; exact hg)
  have T2 : Turned (fun b => b = ge) w2 (w2.setCell ⟨ge, 0, none⟩ (.int .i64 e)) := Turned.set w2 _ _ rfl
  have T3 : Turned F w (w2.setCell ⟨ge, 0, none⟩ (.int .i64 e)) := T.trans T2 (fun i hi => Or.inl (by rw [hi]; exact hge))
  have hne : ∀ b, F1 b → ¬ b = ge := fun b hb e => (h2 b hb).2 e
  exact ⟨c2, ⟨hge, hF, Nat.le_trans hN T3.size, hgr, g, F1, L2, e, one_setCell c2, T3.cell hc hgr, r2.turned T2 hne, h2, ho⟩, T3⟩
set_option maxRecDepth 100000 in
set_option maxHeartbeats 1000000 in
theorem rdnum_any (F : Nat → Prop) (N ge gr s : Nat) (o : Option (List Nat)) (w : World) (h : RdS w F N ge gr o) (s1 : 1 ≤ s) (s8 : s ≤ 8) :
    Calls Tryz.prog 109 #[.int .i64 (s : Int), .pointer (some ⟨ge, 0, none⟩), .pointer (some ⟨gr, 0, none⟩)] w fun e w' => e = .returned (.int .u64 (nxtN s o : Nat)) ∧ RdS w' F N ge gr (nxtO s o) ∧ Turned F w w' := by
  obtain ⟨h1, h2, h0, h3, g, F1, L, e0, h4, h5, h6, h7, h8⟩ := h
  have d1 := cell_of_one h4
  have d2 := free_of_one h4
  cases o with
  | none =>
    have e1 : (e0 == 0) = false := beq_eq_false_iff_ne.2 h8
    have R : Hid (RdS w F N ge gr (nxtO s none)) := ⟨h1, h2, h0, h3, g, F1, L, e0, h4, h5, h6, h7, h8⟩
    clear h1 h2 h0 h3 h4 h5 h6 h7 h8
    go_enter Tryz.func109, Tryz.ntmps109
    go_wp2_with fail
    go_ret
    exact ⟨rfl, R.out, Turned.refl _ _⟩
  | some L' =>
    obtain ⟨rfl, rfl⟩ := h8
    have hs : ¬ ((s : Int) < 1 ∨ 8 < (s : Int)) := by omega
    have HN := Lib.hid (wread_same F1 g L' (s : Int) w h6)
    have hg1 := (h7 g h6.at_)
    have P := Lib.hid (fun (w2 : World) (L2 : List Nat) (e : Int) (gr2 : w.grownBy w2 (some g)) (r2 : ReadR w2 F1 g L2) (o : Option (List Nat)) (ho : match o with | some L' => e = 0 ∧ L' = L2 | none => e ≠ 0) => RdS.put (gr := gr) h2 h0 h1 h3 h4 h5 hg1.1 hg1.2 gr2 r2 h7 o ho)
    clear h1 h2 h0 h3 h4 h6 h7
    go_enter Tryz.func109, Tryz.ntmps109
    go_wp2_with fail
    refine HN.out.mono ?_
    rintro e w2 ⟨rfl, r2, g2⟩
    have hh : ∃ (v : Nat) (er : Int), readVal L' (s : Int) = v ∧ readErr L' (s : Int) = er ∧ v = nxtN s (some L') ∧ (match nxtO s (some L') with | some M => er = 0 ∧ M = readLeft L' (s : Int) | none => er ≠ 0) := by
      refine ⟨_, _, rfl, rfl, ?_⟩
      unfold readVal readLeft readErr nxtN nxtO
      rw [if_neg hs, Int.toNat_natCast]
      dsimp only
      by_cases hl : s ≤ L'.length
      · have hl2 : ¬ L'.length < s := by omega
        simp only [if_pos hl, if_neg hl2]
        exact ⟨rfl, trivial, by simp⟩
      · have hl2 : L'.length < s := by omega
        simp only [if_neg hl, if_pos hl2]
        exact ⟨rfl, by decide⟩
    obtain ⟨v, er, q1, q2, q3, q4⟩ := hh
    rw [q1, q2]
    obtain ⟨c2, rn⟩ := P.out w2 _ er g2 r2 (nxtO s (some L')) q4
    have x1 := cell_of_one c2
    have x2 := free_of_one c2
    obtain ⟨w3, hw3⟩ : ∃ w3, w2.setCell ⟨ge, 0, none⟩ (.int .i64 er) = w3 := ⟨_, rfl⟩
    rw [hw3] at rn
    have R := Lib.hid rn
    have Q3 := Lib.hid q3
    clear r2 g2 c2 rn q1 q2 q3 q4 d1 d2
    go_wp2_with fail
    go_ret
    exact ⟨by rw [← Q3.out]; rfl, R.out⟩
end Go.Proofs.YtifopodnceopjaaGreatDoor
/- The landed frames: the closures that read, further. -/
namespace Go.Proofs.YtifopodnceopjaaGreatDoor
open Go.RowKit Fr
set_option linter.unusedVariables false
set_option linter.unusedSimpArgs false
set_option maxRecDepth 100000 in
set_option maxHeartbeats 1000000 in
theorem rdtake_any (F : Nat → Prop) (N ge gr n : Nat) (o : Option (List Nat)) (w : World) (h : RdS w F N ge gr o) :
    Calls Tryz.prog 111 #[.int .i64 (n : Int), .pointer (some ⟨ge, 0, none⟩), .pointer (some ⟨gr, 0, none⟩)] w fun e w' => ∃ A k c, e = .returned (.slice A k c) ∧ Own w' w.heap.size 5 A k c (nxtB n o) ∧ RdS w' F N ge gr (nxtO n o) ∧ Turned F w w' := by
  obtain ⟨h1, h2, h0, h3, g, F1, L, e0, h4, h5, h6, h7, h8⟩ := h
  have d1 := cell_of_one h4
  have d2 := free_of_one h4
  cases o with
  | none =>
    have e1 : (e0 == 0) = false := beq_eq_false_iff_ne.2 h8
    have R : Hid (RdS w F N ge gr (nxtO n none)) := ⟨h1, h2, h0, h3, g, F1, L, e0, h4, h5, h6, h7, h8⟩
    clear h1 h2 h0 h3 h4 h5 h6 h7 h8
    go_enter Tryz.func111, Tryz.ntmps111
    go_wp2_with fail
    go_ret
    exact ⟨none, 0, 0, rfl, Own.none_ _ _ _, R.out, Turned.refl _ _⟩
  | some L' =>
    obtain ⟨rfl, rfl⟩ := h8
    have hs : ¬ ((n : Int) < 0) := by omega
    have HN := Lib.hid (wtake_same F1 g L' (n : Int) w h6)
    have hg1 := (h7 g h6.at_)
    have HGE : Hid (ge < w.heap.size) := Nat.lt_of_lt_of_le (h2 ge h1) h0
    have P := Lib.hid (fun (w2 : World) (L2 : List Nat) (e : Int) (gr2 : w.grownBy w2 (some g)) (r2 : ReadR w2 F1 g L2) (o : Option (List Nat)) (ho : match o with | some L' => e = 0 ∧ L' = L2 | none => e ≠ 0) => RdS.put (gr := gr) h2 h0 h1 h3 h4 h5 hg1.1 hg1.2 gr2 r2 h7 o ho)
    clear h1 h2 h0 h3 h4 h6 h7
    go_enter Tryz.func111, Tryz.ntmps111
    go_wp2_with fail
    refine HN.out.mono ?_
    rintro e w2 ⟨A, k, c, rfl, o2, r2, g2⟩
    have hh : ∃ (v : List Nat) (er : Int), takeVal L' (n : Int) = v ∧ takeErr L' (n : Int) = er ∧ v = nxtB n (some L') ∧ (match nxtO n (some L') with | some M => er = 0 ∧ M = takeLeft L' (n : Int) | none => er ≠ 0) := by
      refine ⟨_, _, rfl, rfl, ?_⟩
      unfold takeVal takeLeft takeErr nxtB nxtO
      rw [if_neg (show ¬ ((n : Int) < 0) by omega), Int.toNat_natCast]
      dsimp only
      by_cases hl : n ≤ L'.length
      · have hl2 : ¬ L'.length < n := by omega
        simp only [if_pos hl, if_neg hl2]
        exact ⟨rfl, trivial, by simp⟩
      · have hl2 : L'.length < n := by omega
        simp only [if_neg hl, if_pos hl2]
        exact ⟨rfl, by decide⟩
    obtain ⟨v, er, q1, q2, q3, q4⟩ := hh
    rw [q1] at o2
    rw [q2]
    obtain ⟨c2, rs, rt⟩ := P.out w2 _ er g2 r2 (nxtO n (some L')) q4
    have x1 := cell_of_one c2
    have x2 := free_of_one c2
    have o3 : Own (w2.setCell ⟨ge, 0, none⟩ (.int .i64 er)) w.heap.size 5 A k c v := o2.far (fun e => by
      have h1 := o2.rowLe _ e
      have h2 := HGE.out
      have h1 : w.heap.size ≤ ge := h1
      omega) _
    obtain ⟨w3, hw3⟩ : ∃ w3, w2.setCell ⟨ge, 0, none⟩ (.int .i64 er) = w3 := ⟨_, rfl⟩
    rw [hw3] at rs rt o3
    have RS := Lib.hid rs
    have RT := Lib.hid rt
    have O3 := Lib.hid o3
    have Q3 := Lib.hid q3
    clear r2 g2 c2 rs rt q1 q2 q3 q4 d1 d2 o2 o3
    go_wp2_with fail
    go_ret
    exact ⟨A, k, c, rfl, by rw [← Q3.out]; exact O3.out, RS.out, RT.out⟩
/-- The end: whether nothing is left. -/
theorem rdend_any (F : Nat → Prop) (N ge gr : Nat) (o : Option (List Nat)) (w : World) (h : RdS w F N ge gr o) :
    Calls Tryz.prog 113 #[.pointer (some ⟨ge, 0, none⟩), .pointer (some ⟨gr, 0, none⟩)] w fun e w' => ∃ er : Int, e = .returned (.int .i64 er) ∧ (er = 0 ↔ o = some []) ∧ Turned F w w' := by
  obtain ⟨h1, h2, h0, h3, g, F1, L, e0, h4, h5, h6, h7, h8⟩ := h
  have d1 := cell_of_one h4
  have d2 := free_of_one h4
  cases o with
  | none =>
    have e1 : (e0 == 0) = false := beq_eq_false_iff_ne.2 h8
    have e2 : Hid (e0 ≠ 0) := h8
    clear h1 h2 h3 h4 h5 h6 h7 h8
    go_enter Tryz.func113, Tryz.ntmps113
    go_wp2_with fail
    go_ret
    exact ⟨e0, rfl, ⟨fun e => absurd e e2.out, fun e => by cases e⟩, Turned.refl _ _⟩
  | some L' =>
    obtain ⟨rfl, rfl⟩ := h8
    have HE := Lib.hid (wend_any F1 g L' w h6)
    obtain ⟨er, her⟩ : ∃ er, endErr L' = er := ⟨_, rfl⟩
    rw [her] at HE
    have HI : Hid (er = 0 ↔ some L' = some []) := by
      show er = 0 ↔ _
      rw [← her, endErr]
      split
      · rename_i e; rw [e]; simp
      · rename_i e; simp [e]
    have T : Hid (Turned F w (w.setCell ⟨ge, 0, none⟩ (.int .i64 er))) := Turned.set w _ _ h1
    have x1 := cell_of_one (one_setCell (u := .int .i64 er) h4)
    clear h1 h2 h3 h4 h6 h7 her
    go_enter Tryz.func113, Tryz.ntmps113
    go_wp2_with fail
    refine HE.out.mono ?_
    rintro e w2 ⟨rfl, rfl⟩
    go_wp2_with fail
    go_ret
    exact ⟨er, rfl, HI.out, T.out⟩
/-- The closures, as values. -/
def numF (ge gr : Nat) : Value := .func (.func 109) #[] #[.pointer (some ⟨ge, 0, none⟩), .pointer (some ⟨gr, 0, none⟩)]
def takF (ge gr : Nat) : Value := .func (.func 111) #[] #[.pointer (some ⟨ge, 0, none⟩), .pointer (some ⟨gr, 0, none⟩)]
def endF (ge gr : Nat) : Value := .func (.func 113) #[] #[.pointer (some ⟨ge, 0, none⟩), .pointer (some ⟨gr, 0, none⟩)]
theorem reading_any (B n c : Nat) (A : Option Addr) (xs : List Nat) (w : World) (h : Bytes w B A n xs) (hB : B ≤ w.heap.size) (hn : n ≤ 140737488355328) :
    Calls Tryz.prog 83 #[.slice A n c] w fun e w' => ∃ ge gr F, e = .returned (.tuple #[numF ge gr, takF ge gr, endF ge gr]) ∧ RdS w' F w'.heap.size ge gr (some xs) ∧ (∀ b, F b → w.heap.size ≤ b) ∧ w.heap.size ≤ gr ∧ gr < w'.heap.size ∧ Keep w w' := by
  have HN := Lib.hid (wnew_any B n c A xs w h hB hn)
  clear h
  go_enter Tryz.func83, Tryz.ntmps83
  go_wp2_with fail
  refine HN.out.mono ?_
  rintro e w1 ⟨g, F1, rfl, r1, f1, k1⟩
  have R1 := Lib.hid r1
  have F1' := Lib.hid f1
  have K1 := Lib.hid k1
  clear r1 f1 k1
  go_wp2_with fail
  go_ret3
  have e1 : ((w1.alloc (.cells #[.pointer (some ⟨g, 0, none⟩)] 172)).alloc (.cells #[.int .i64 0] 29)).heap[w1.heap.size + 1]? = some (.cells #[.int .i64 0] 29 (0, 0)) := by
    have := heap_alloc_new (w1.alloc (.cells #[.pointer (some ⟨g, 0, none⟩)] 172)) (.cells #[.int .i64 0] 29)
    simpa using this
  have e2 : ((w1.alloc (.cells #[.pointer (some ⟨g, 0, none⟩)] 172)).alloc (.cells #[.int .i64 0] 29)).heap[w1.heap.size]? = some (.cells #[.pointer (some ⟨g, 0, none⟩)] 172 (0, 0)) :=
    (((Keep.refl (w1.alloc (.cells #[.pointer (some ⟨g, 0, none⟩)] 172))).alloc _ _).block _ (by simp)).trans (heap_alloc_new w1 _)
  have k : Keep w1 ((w1.alloc (.cells #[.pointer (some ⟨g, 0, none⟩)] 172)).alloc (.cells #[.int .i64 0] 29)) := ((Keep.refl w1).alloc _ _).alloc _ _
  refine ⟨w1.heap.size + 1, w1.heap.size, fun b => b = w1.heap.size + 1 ∨ F1 b, rfl, ⟨Or.inl rfl, ?_, Nat.le_refl _, ?_, g, F1, xs, 0, e1, cell_of_one e2, R1.out.keep k, ?_, rfl, rfl⟩, ?_, K1.out.size, by simp; omega, K1.out.trans k⟩
  · rintro b (rfl | hb)
    · simp
    · have := R1.out.lt hb
      simp; omega
  · rintro (e | e)
    · omega
    · have := R1.out.lt e; omega
  · intro b hb
    refine ⟨Or.inr hb, fun e => ?_⟩
    have := R1.out.lt hb; omega
  · rintro b (rfl | hb)
    · have := K1.out.size; omega
    · exact F1'.out b hb
end Go.Proofs.YtifopodnceopjaaGreatDoor
/- The landed frames: one byte's number, by the closures; the state of a walk that reads. -/
namespace Go.Proofs.YtifopodnceopjaaGreatDoor
open Go.RowKit Fr
set_option linter.unusedVariables false
set_option linter.unusedSimpArgs false
theorem nxt1_lt {w : World} {F : Nat → Prop} {N ge gr : Nat} {o : Option (List Nat)} (h : RdS w F N ge gr o) : nxtN 1 o < 256 := nxtN_lt 1 o h.all (by decide)
theorem nxt8_lt {w : World} {F : Nat → Prop} {N ge gr : Nat} {o : Option (List Nat)} (h : RdS w F N ge gr o) : nxtN 8 o < 18446744073709551616 := nxtN_lt 8 o h.all (by decide)
theorem nxt2_lt {w : World} {F : Nat → Prop} {N ge gr : Nat} {o : Option (List Nat)} (h : RdS w F N ge gr o) : nxtN 2 o < 65536 := nxtN_lt 2 o h.all (by decide)
set_option maxRecDepth 100000 in
theorem rone_any (F : Nat → Prop) (N ge gr hn : Nat) (o : Option (List Nat)) (w : World) (h : RdS w F N ge gr o) (hc : w.cell? ⟨hn, 0, none⟩ = some (numF ge gr)) :
    Calls Tryz.prog 84 #[.pointer (some ⟨hn, 0, none⟩)] w fun e w' => e = .returned (.int .i64 (nxtN 1 o : Nat)) ∧ RdS w' F N ge gr (nxtO 1 o) ∧ Turned F w w' := by
  have HN : Hid (Calls Tryz.prog 109 #[.int .i64 1, .pointer (some ⟨ge, 0, none⟩), .pointer (some ⟨gr, 0, none⟩)] w fun e w' => e = .returned (.int .u64 (nxtN 1 o : Nat)) ∧ RdS w' F N ge gr (nxtO 1 o) ∧ Turned F w w') :=
    rdnum_any F N ge gr 1 o w h (by omega) (by omega)
  have hb := nxt1_lt h
  obtain ⟨x, hx⟩ : ∃ x, nxtN 1 o = x := ⟨_, rfl⟩
  rw [hx] at HN hb ⊢
  have e1 : IntKind.i64.wrap (x : Int) = (x : Int) := IntWalk.i64_in _ (by omega)
  unfold numF at hc
  clear h hx
  go_enter Tryz.func84, Tryz.ntmps84
  go_wp2_with fail
  refine HN.out.mono ?_
  rintro e w2 ⟨rfl, r2⟩
  go_wp2_with fail
  go_ret
  exact ⟨rfl, r2⟩
set_option maxRecDepth 100000 in
theorem rtone_any (F : Nat → Prop) (N ge gr hn : Nat) (o : Option (List Nat)) (w : World) (h : RdS w F N ge gr o) (hc : w.cell? ⟨hn, 0, none⟩ = some (numF ge gr)) :
    Calls Tryz.prog 115 #[.pointer (some ⟨hn, 0, none⟩)] w fun e w' => e = .returned (.int .i64 (nxtN 1 o : Nat)) ∧ RdS w' F N ge gr (nxtO 1 o) ∧ Turned F w w' := by
  have HN : Hid (Calls Tryz.prog 109 #[.int .i64 1, .pointer (some ⟨ge, 0, none⟩), .pointer (some ⟨gr, 0, none⟩)] w fun e w' => e = .returned (.int .u64 (nxtN 1 o : Nat)) ∧ RdS w' F N ge gr (nxtO 1 o) ∧ Turned F w w') :=
    rdnum_any F N ge gr 1 o w h (by omega) (by omega)
  have hb := nxt1_lt h
  obtain ⟨x, hx⟩ : ∃ x, nxtN 1 o = x := ⟨_, rfl⟩
  rw [hx] at HN hb ⊢
  have e1 : IntKind.i64.wrap (x : Int) = (x : Int) := IntWalk.i64_in _ (by omega)
  unfold numF at hc
  clear h hx
  go_enter Tryz.func115, Tryz.ntmps115
  go_wp2_with fail
  refine HN.out.mono ?_
  rintro e w2 ⟨rfl, r2⟩
  go_wp2_with fail
  go_ret
  exact ⟨rfl, r2⟩
/-- A walk that reads: the reader (of the blocks F, all below N), the cell that holds the closure of numbers; everything else that it laid is new since W. -/
structure RfT (W : World) (F : Nat → Prop) (N ge gr hn : Nat) (w : World) (o : Option (List Nat)) : Prop where
  rd : RdS w F N ge gr o
  cl : w.cell? ⟨hn, 0, none⟩ = some (numF ge gr)
  nh : N ≤ hn
  ng : gr < N
  kp : Turned F W w
theorem RfT.next {W w w' : World} {N ge gr hn : Nat} {F : Nat → Prop} {o o' : Option (List Nat)} (t : RfT W F N ge gr hn w o) (n : RdS w' F N ge gr o' ∧ Turned F w w') : RfT W F N ge gr hn w' o' :=
  ⟨n.1, n.2.cell t.cl (fun e => by have h1 : hn < N := n.1.2.1 _ e; have := t.nh; omega), t.nh, t.ng, t.kp.trans n.2 (fun i hi => Or.inl hi)⟩
/-- What else was written: blocks from N on. -/
theorem RfT.turned {W w w' : World} {N ge gr hn : Nat} {F G : Nat → Prop} {o : Option (List Nat)} (t : RfT W F N ge gr hn w o) (k : Turned G w w') (hG : ∀ b, G b → N ≤ b ∧ b ≠ hn ∧ W.heap.size ≤ b) : RfT W F N ge gr hn w' o :=
  ⟨t.rd.turned k (fun b hb e => by have := t.rd.2.1 b hb; have := (hG b e).1; omega) (fun e => by have := (hG _ e).1; have := t.ng; omega), k.cell t.cl (fun e => (hG _ e).2.1 rfl), t.nh, t.ng, t.kp.trans k (fun i hi => Or.inr (hG i hi).2.2)⟩
theorem RfT.keep {W w w' : World} {N ge gr hn : Nat} {F : Nat → Prop} {o : Option (List Nat)} (t : RfT W F N ge gr hn w o) (k : Keep w w') : RfT W F N ge gr hn w' o :=
  t.turned (G := fun _ => False) (Turned.of_keep k) (fun _ e => e.elim)
theorem RfT.size {W w : World} {N ge gr hn : Nat} {F : Nat → Prop} {o : Option (List Nat)} (t : RfT W F N ge gr hn w o) : N ≤ w.heap.size := t.rd.2.2.1
theorem RfT.one {W w : World} {N ge gr hn : Nat} {F : Nat → Prop} {o : Option (List Nat)} (t : RfT W F N ge gr hn w o) :
    Calls Tryz.prog 84 #[.pointer (some ⟨hn, 0, none⟩)] w fun e w' => e = .returned (.int .i64 (nxtN 1 o : Nat)) ∧ RdS w' F N ge gr (nxtO 1 o) ∧ Turned F w w' := rone_any F N ge gr hn o w t.rd t.cl
theorem RfT.tone {W w : World} {N ge gr hn : Nat} {F : Nat → Prop} {o : Option (List Nat)} (t : RfT W F N ge gr hn w o) :
    Calls Tryz.prog 115 #[.pointer (some ⟨hn, 0, none⟩)] w fun e w' => e = .returned (.int .i64 (nxtN 1 o : Nat)) ∧ RdS w' F N ge gr (nxtO 1 o) ∧ Turned F w w' := rtone_any F N ge gr hn o w t.rd t.cl
theorem RfT.eight {W w : World} {N ge gr hn : Nat} {F : Nat → Prop} {o : Option (List Nat)} (t : RfT W F N ge gr hn w o) :
    Calls Tryz.prog 109 #[.int .i64 8, .pointer (some ⟨ge, 0, none⟩), .pointer (some ⟨gr, 0, none⟩)] w fun e w' => e = .returned (.int .u64 (nxtN 8 o : Nat)) ∧ RdS w' F N ge gr (nxtO 8 o) ∧ Turned F w w' :=
  rdnum_any F N ge gr 8 o w t.rd (by omega) (by omega)
theorem RfT.two {W w : World} {N ge gr hn : Nat} {F : Nat → Prop} {o : Option (List Nat)} (t : RfT W F N ge gr hn w o) :
    Calls Tryz.prog 109 #[.int .i64 2, .pointer (some ⟨ge, 0, none⟩), .pointer (some ⟨gr, 0, none⟩)] w fun e w' => e = .returned (.int .u64 (nxtN 2 o : Nat)) ∧ RdS w' F N ge gr (nxtO 2 o) ∧ Turned F w w' :=
  rdnum_any F N ge gr 2 o w t.rd (by omega) (by omega)
/-- Readers, one behind the other. -/
theorem bind_assoc {α β γ : Type} (p : Pa α) (q : α → Pa β) (r : β → Pa γ) : (p.bind q).bind r = p.bind fun a => (q a).bind r := by
  funext l
  unfold Pa.bind
  cases p l <;> rfl
/-- A topology, read. -/
def topoQ {β : Type} (Q : Nat → List Bool → List (List (Int × Int)) → Pa β) : Pa β := (numP 8).bind fun te => (numP 1).bind fun n => (upP n).bind fun up => (numP 1).bind fun m => (manyP hopP m).bind fun hops => Q te up hops
theorem topo_q (s d ep life : Nat) : topoP s d ep life = topoQ fun te up hops => Pa.ret ⟨5, s, d, ep, life, 0, 0, 0, 0, [], [], [], te, up, hops⟩ := rfl
/-- The marks: a byte that is none ends it. -/
theorem go_up {β : Type} (o : Option (List Nat)) (n : Nat) (Q : List Bool → Pa β) : goO o ((upP n).bind Q) = if (nxtB n o).all (· ≤ 1) = true then goO (nxtO n o) (Q ((nxtB n o).map (· == 1))) else none := by
  rw [upP, bind_assoc, go_take]
  cases h : nxtO n o with
  | none => show none = _; split <;> rfl
  | some L =>
    show (upQ (nxtB n o)).bind Q L = _
    unfold Pa.bind upQ
    by_cases hb : (nxtB n o).all (· ≤ 1) = true
    · rw [if_pos hb, if_pos hb]; rfl
    · rw [if_neg hb, if_neg hb]
theorem go_many_zero {α β : Type} (o : Option (List Nat)) (p : Pa α) (Q : List α → Pa β) : goO o ((manyP p 0).bind Q) = goO o (Q []) := rfl
theorem go_many_succ {α β : Type} (o : Option (List Nat)) (p : Pa α) (k : Nat) (Q : List α → Pa β) : goO o ((manyP p (k + 1)).bind Q) = goO o (p.bind fun a => (manyP p k).bind fun l => Q (a :: l)) := by
  rw [manyP, bind_assoc]
  congr 1
  congr 1
  funext a
  rw [bind_assoc]
  rfl
theorem go_rank {β : Type} (o : Option (List Nat)) (Q : Nat × Int → Pa β) : goO o (rankP.bind Q) = goO (nxtO 1 (nxtO 8 o)) (Q (nxtN 8 o, (nxtN 1 (nxtO 8 o) : Nat))) := by
  rw [rankP, bind_assoc, go_num, bind_assoc, go_num]
  rfl
theorem go_edge {β : Type} (o : Option (List Nat)) (Q : Int × Int → Pa β) : goO o (edgeP.bind Q) = goO (nxtO 1 (nxtO 1 o)) (Q ((nxtN 1 o : Nat), (nxtN 1 (nxtO 1 o) : Nat))) := by
  rw [edgeP, bind_assoc, go_num, bind_assoc, go_num]
  rfl
theorem go_hop {β : Type} (o : Option (List Nat)) (Q : List (Int × Int) → Pa β) : goO o (hopP.bind Q) = goO (nxtO 1 o) ((manyP edgeP (nxtN 1 o)).bind Q) := by
  rw [hopP, bind_assoc, go_num]
end Go.Proofs.YtifopodnceopjaaGreatDoor
/- One thing appended, of any number of cells, out of a block of its own. -/
namespace Go.Proofs.YtifopodnceopjaaGreatDoor
open Go.RowKit Fr
set_option linter.unusedVariables false
set_option linter.unusedSimpArgs false
/-- What a type's things are: the nought, how many cells, how many bytes. -/
def InfoT (P : Program) (e : TypeId) (z : Value) (size bytes : Nat) : Prop := (P.info? e).map (fun i => (i.zero, i.size, i.bytes)) = some (some z, size, bytes)
section
variable {P : Program}
theorem run_append_cells {w : World} {base n c cx t e size bytes gx : Nat} {z : Value} {A : Option Addr} {l news : List Value} (ht : P.underlying t = some (.slice e)) (hi : InfoT P e z size bytes) (hz : z.cells.size = size) (hs : 0 < size) (hb : bytes ≤ 64)
    (hown : w.ownsRow base e size (.slice A n c) n l) (hnl : news.length = size) (hx : ∀ j u, news[j]? = some u → w.cell? ⟨gx, j, none⟩ = some u) (h1 : ∀ u ∈ news, u.oneCell' = true) (hlen : n ≤ 1000000) (hbase : base ≤ w.heap.size) (ty : TypeId) :
    ∃ A2 c2 w', (Builtin.append_ #[t, t] ty #[.slice A n c, .slice (some ⟨gx, 0, none⟩) 1 cx]).run P w = .ok (.slice A2 (n + 1) c2) w' ∧ w'.ownsRow base e size (.slice A2 (n + 1) c2) (n + 1) (l ++ news) ∧ w.grownBy w' (Value.slice A n c).ownBlock ∧
      ((Value.slice A2 (n + 1) c2).ownBlock = (Value.slice A n c).ownBlock ∨ (Value.slice A2 (n + 1) c2).ownBlock = some w.heap.size) := by
  obtain ⟨i0, hi0, hz0, hz1, hz2⟩ := info_parts hi
  have hbb : (n + 1) * bytes ≤ 140737488355328 := by
    have : (n + 1) * bytes ≤ 1000001 * 64 := Nat.mul_le_mul (by omega) hb
    omega
  obtain ⟨v', w', hrun, h2, h3, _, h5⟩ := run_append_own_at (P := P) w base t ty e i0 z size bytes ht hi0 hz0 hz1 hz2 hz hs _ n l hown ⟨gx, 0, none⟩ 1 cx news (by omega)
    (fun j u hu => by
      have ha : (⟨gx, 0, none⟩ : Addr).add j = ⟨gx, j, none⟩ := by unfold Addr.add; split <;> simp_all
      rw [ha]; exact hx j u hu) h1 (by unfold maxLen; omega) hbb hbase
  obtain ⟨A2, c2, rfl⟩ := own_shape h2
  exact ⟨A2, c2, w', hrun, h2, h3, h5⟩
/-- .. at the operation. -/
theorem wp_append_cells {w : World} {o : Oper} {a : Act} {K : Act → World → Prop} {Q : Exit → Act → World → Prop} (s x : Operand) (t : TypeId)
    (ho : o.op = .call { callee := .builtin .append, args := #[s, x], argTypes := #[t, t] }) {base n c cx e size bytes gx : Nat} {z : Value} {A : Option Addr} {l : List Value} (news : List Value) (ht : P.underlying t = some (.slice e)) (hi : InfoT P e z size bytes) (hz : z.cells.size = size) (hsz : 0 < size) (hb : bytes ≤ 64)
    (hs : a.eval s = .slice A n c) (hown : w.ownsRow base e size (.slice A n c) n l) (hx0 : a.eval x = .slice (some ⟨gx, 0, none⟩) 1 cx) (hnl : news.length = size) (hx : ∀ j u, news[j]? = some u → w.cell? ⟨gx, j, none⟩ = some u) (h1 : ∀ u ∈ news, u.oneCell' = true) (hlen : n ≤ 1000000) (hbase : base ≤ w.heap.size)
    (h : ∀ A2 c2 w', w'.ownsRow base e size (.slice A2 (n + 1) c2) (n + 1) (l ++ news) → w.grownBy w' (Value.slice A n c).ownBlock → ((Value.slice A2 (n + 1) c2).ownBlock = (Value.slice A n c).ownBlock ∨ (Value.slice A2 (n + 1) c2).ownBlock = some w.heap.size) → K (a.put o.dst (.slice A2 (n + 1) c2)) w') : o.wp P a w K Q := by
  obtain ⟨A2, c2, w', hr, h2, h3, h4⟩ := run_append_cells (P := P) (cx := cx) ht hi hz hsz hb hown hnl hx h1 hlen hbase o.type
  unfold Oper.wp execOp
  simp only [ho, resolve, invoke, builtin, Sem.run_bind, Sem.run_pure, Result.andThen_ok, List.map_toArray, List.map_cons, List.map_nil, hs, hx0, hr]
  exact h A2 c2 w' h2 h3 h4
theorem wpList_append_cells {w : World} {ops : Array Oper} {rest : List Oper} {o : Oper} {a : Act} {Q : Exit → Act → World → Prop} (hgd : o.guard = none) (s x : Operand) (t : TypeId)
    (ho : o.op = .call { callee := .builtin .append, args := #[s, x], argTypes := #[t, t] }) {base n c cx e size bytes gx : Nat} {z : Value} {A : Option Addr} {l : List Value} (news : List Value) (ht : P.underlying t = some (.slice e)) (hi : InfoT P e z size bytes) (hz : z.cells.size = size) (hsz : 0 < size) (hb : bytes ≤ 64)
    (hs : a.eval s = .slice A n c) (hown : w.ownsRow base e size (.slice A n c) n l) (hx0 : a.eval x = .slice (some ⟨gx, 0, none⟩) 1 cx) (hnl : news.length = size) (hx : ∀ j u, news[j]? = some u → w.cell? ⟨gx, j, none⟩ = some u) (h1 : ∀ u ∈ news, u.oneCell' = true) (hlen : n ≤ 1000000) (hbase : base ≤ w.heap.size)
    (h : ∀ A2 c2 w', w'.ownsRow base e size (.slice A2 (n + 1) c2) (n + 1) (l ++ news) → w.grownBy w' (Value.slice A n c).ownBlock → ((Value.slice A2 (n + 1) c2).ownBlock = (Value.slice A n c).ownBlock ∨ (Value.slice A2 (n + 1) c2).ownBlock = some w.heap.size) → wpList P ops Q rest (a.put o.dst (.slice A2 (n + 1) c2)) w') : wpList P ops Q (o :: rest) a w :=
  wpList_plain hgd fun _ hK => wp_append_cells s x t ho news ht hi hz hsz hb hs hown hx0 hnl hx h1 hlen hbase fun A2 c2 w' h2 h3 h4 => hK _ _ (h A2 c2 w' h2 h3 h4)
theorem step_append_cells {w : World} {ops : Array Oper} {o : Oper} {a : Act} {K : Act → World → Prop} {Q : Exit → Act → World → Prop} {E : Prop} (hgd : o.guard = none) (s x : Operand) (t : TypeId)
    (ho : o.op = .call { callee := .builtin .append, args := #[s, x], argTypes := #[t, t] }) {base n c cx e size bytes gx : Nat} {z : Value} {A : Option Addr} {l : List Value} (news : List Value) (ht : P.underlying t = some (.slice e)) (hi : InfoT P e z size bytes) (hz : z.cells.size = size) (hsz : 0 < size) (hb : bytes ≤ 64)
    (hs : a.eval s = .slice A n c) (hown : w.ownsRow base e size (.slice A n c) n l) (hx0 : a.eval x = .slice (some ⟨gx, 0, none⟩) 1 cx) (hnl : news.length = size) (hx : ∀ j u, news[j]? = some u → w.cell? ⟨gx, j, none⟩ = some u) (h1 : ∀ u ∈ news, u.oneCell' = true) (hlen : n ≤ 1000000) (hbase : base ≤ w.heap.size)
    (h : ∀ A2 c2 w', w'.ownsRow base e size (.slice A2 (n + 1) c2) (n + 1) (l ++ news) → w.grownBy w' (Value.slice A n c).ownBlock → ((Value.slice A2 (n + 1) c2).ownBlock = (Value.slice A n c).ownBlock ∨ (Value.slice A2 (n + 1) c2).ownBlock = some w.heap.size) → K (a.put o.dst (.slice A2 (n + 1) c2)) w') :
    if Region.wanted o (yielded ops a.tmps) = true then Oper.wp P o a w K Q else E := by
  have hw : Region.wanted o (yielded ops a.tmps) = true := by simp [Region.wanted, hgd]
  rw [if_pos hw]
  exact wp_append_cells s x t ho news ht hi hz hsz hb hs hown hx0 hnl hx h1 hlen hbase h
end
theorem infoBool : InfoT Tryz.prog 4 (.bool false) 1 1 := by unfold InfoT; kernel_rfl
theorem infoEdge : InfoT Tryz.prog 99 (.agg #[.int .i64 0, .int .i64 0]) 2 16 := by unfold InfoT; kernel_rfl
theorem infoRank : InfoT Tryz.prog 93 (.agg #[.int .u64 0, .int .i64 0]) 2 16 := by unfold InfoT; kernel_rfl
theorem infoEdges : InfoT Tryz.prog 96 (.slice none 0 0) 1 24 := by unfold InfoT; kernel_rfl
/-- Rows of one's own, of things of any number of cells. -/
theorem owns_keep {w w' : World} {base e size n : Nat} {v : Value} {l : List Value} (h : w.ownsRow base e size v n l) (k : Keep w w') : w'.ownsRow base e size v n l :=
  (Turned.of_keep (F := fun _ => False) k).owns h (fun _ _ e => e)
/-- Where such a row lies. -/
theorem owns_at {w : World} {base e size n c : Nat} {A : Option Addr} {l : List Value} (h : w.ownsRow base e size (.slice A n c) n l) (hn : 0 < n) : ∃ g, A = some ⟨g, 0, none⟩ ∧ base ≤ g ∧ g < w.heap.size ∧ ∀ j, j < n * size → w.cell? ⟨g, j, none⟩ = l[j]? := by
  rcases h.2 with ⟨hv, h0⟩ | ⟨g, cap, cur, hv, hg, hh, r⟩
  · omega
  · injection hv with h1 _ _
    subst h1
    exact ⟨g, rfl, hg, (Array.getElem?_eq_some_iff.1 hh).1, fun j hj => World.ownsRow.cellAt h j hj⟩
theorem owns_le {w : World} {base e size n c : Nat} {A : Option Addr} {l : List Value} (h : w.ownsRow base e size (.slice A n c) n l) : n ≤ c := by
  rcases h.2 with ⟨hv, h0⟩ | ⟨g, cap, cur, hv, _, _, hle, _⟩
  · omega
  · injection hv with _ _ h3; omega
/-- Bools, things of two cells, slices: as lists. -/
theorem ups_owned {w : World} {base n c : Nat} {A : Option Addr} {l : List Bool} (h : w.ownsRow base 4 1 (.slice A n c) n (l.map Value.bool)) : UpsAt w w.heap.size A n l := by
  have hl : l.length = n := by have := h.1; simpa using this
  refine ⟨hl, fun hn => ?_⟩
  obtain ⟨g, rfl, h1, h2, h3⟩ := owns_at h hn
  refine ⟨g, 0, rfl, h2, fun i x hx => ?_⟩
  have hi : i < l.length := by
    rcases Nat.lt_or_ge i l.length with h1 | h1
    · exact h1
    · rw [List.getElem?_eq_none h1] at hx; cases hx
  rw [Nat.zero_add, h3 i (by omega), List.getElem?_map, hx]
  rfl
theorem flat_pair {α : Type} (f g : α → Value) : ∀ (l : List α) (i : Nat) (x : α), l[i]? = some x → (l.flatMap fun e => [f e, g e])[i * 2]? = some (f x) ∧ (l.flatMap fun e => [f e, g e])[i * 2 + 1]? = some (g x)
  | [], i, x, h => by simp at h
  | e :: l, 0, x, h => by
    simp at h
    subst h
    exact ⟨rfl, rfl⟩
  | e :: l, i + 1, x, h => by
    have h2 : l[i]? = some x := by simpa using h
    have := flat_pair f g l i x h2
    rw [List.flatMap_cons]
    exact ⟨by rw [show (i + 1) * 2 = i * 2 + 1 + 1 by omega]; exact this.1, by rw [show (i + 1) * 2 + 1 = i * 2 + 1 + 1 + 1 by omega]; exact this.2⟩
theorem fields_owned {α : Type} (f g : α → Value) {w : World} {base e n c : Nat} {A : Option Addr} {l : List α} (h : w.ownsRow base e 2 (.slice A n c) n (l.flatMap fun x => [f x, g x])) (hl : l.length = n) : FieldsAt w w.heap.size A n 2 (l.map fun x => [f x, g x]) := by
  refine ⟨by simpa using hl, fun r hr => by simp at hr; obtain ⟨x, _, rfl⟩ := hr; rfl, fun hn => ?_⟩
  obtain ⟨b, rfl, h1, h2, h3⟩ := owns_at h hn
  refine ⟨b, 0, rfl, h2, fun i r j v hr hv => ?_⟩
  rw [List.getElem?_map] at hr
  cases hx : l[i]? with
  | none => rw [hx] at hr; cases hr
  | some x =>
    rw [hx] at hr
    injection hr with hr
    subst hr
    have hi : i < l.length := by
      rcases Nat.lt_or_ge i l.length with h1 | h1
      · exact h1
      · rw [List.getElem?_eq_none h1] at hx; cases hx
    have hp := flat_pair f g l i x hx
    match j, hv with
    | 0, hv =>
      simp at hv
      subst hv
      rw [Nat.zero_add, Nat.add_zero, h3 _ (by omega), hp.1]
    | 1, hv =>
      simp at hv
      subst hv
      rw [Nat.zero_add, h3 _ (by omega), hp.2]
/-- Their cells, as lists. -/
def rankCells (r : Nat × Int) : List Value := [.int .u64 (r.1 : Int), .int .i64 r.2]
def edgeCells (e : Int × Int) : List Value := [.int .i64 e.1, .int .i64 e.2]
theorem ranks_owned {w : World} {base n c : Nat} {A : Option Addr} {l : List (Nat × Int)} (h : w.ownsRow base 93 2 (.slice A n c) n (l.flatMap rankCells)) (hl : l.length = n) : RanksAt w w.heap.size A n l :=
  fields_owned (fun r : Nat × Int => .int .u64 (r.1 : Int)) (fun r => .int .i64 r.2) h hl
theorem edges_owned {w : World} {base n c : Nat} {A : Option Addr} {l : List (Int × Int)} (h : w.ownsRow base 99 2 (.slice A n c) n (l.flatMap edgeCells)) (hl : l.length = n) : EdgesAt w w.heap.size A n l :=
  fields_owned (fun e : Int × Int => .int .i64 e.1) (fun e => .int .i64 e.2) h hl
end Go.Proofs.YtifopodnceopjaaGreatDoor
/- The landed frames: a topology in a box; edges and their lists, as they are read. -/
namespace Go.Proofs.YtifopodnceopjaaGreatDoor
open Go.RowKit Fr
set_option linter.unusedVariables false
set_option linter.unusedSimpArgs false
theorem infoTp : (Tryz.prog.info? 50).map (·.size) = some 3 := by kernel_rfl
theorem resTopo : Tryz.f85.results = #[.cell 4 50] := by kernel_rfl
/-- A topology's box, as a block. -/
def ToBlk (w : World) (g te : Nat) (u h : SlV) : Prop := w.heap[g]? = some (.cells (topoCells te u h) 50 (0, 0))
theorem ToBlk.cells {w : World} {g te : Nat} {u h : SlV} (b : ToBlk w g te u h) : w.cell? ⟨g, 0, none⟩ = some (.int .u64 (te : Int)) ∧ w.cell? ⟨g, 1, none⟩ = some (.slice u.A u.n u.c) ∧ w.cell? ⟨g, 2, none⟩ = some (.slice h.A h.n h.c) := by
  unfold ToBlk at b
  refine ⟨?_, ?_, ?_⟩ <;> simp [World.cell?, b, topoCells]
theorem ToBlk.free {w : World} {g te : Nat} {u h : SlV} (b : ToBlk w g te u h) (i : Nat) : w.frozen? ⟨g, i, none⟩ = false := by
  unfold ToBlk at b
  simp [World.frozen?, b]
theorem ToBlk.lt {w : World} {g te : Nat} {u h : SlV} (b : ToBlk w g te u h) : g < w.heap.size := (Array.getElem?_eq_some_iff.1 b).1
theorem ToBlk.turned {w w' : World} {g te : Nat} {u h : SlV} {G : Nat → Prop} (b : ToBlk w g te u h) (k : Turned G w w') (hn : ¬ G g) : ToBlk w' g te u h :=
  (k.block g b.lt hn).trans b
theorem ToBlk.up {w : World} {g te : Nat} {u h : SlV} (b : ToBlk w g te u h) (A : Option Addr) (n c : Nat) : ToBlk (w.setCell ⟨g, 1, none⟩ (.slice A n c)) g te ⟨A, n, c⟩ h := by
  unfold ToBlk at *
  simp [World.setCell, Array.getElem?_modify, b, topoCells]
theorem ToBlk.hp {w : World} {g te : Nat} {u h : SlV} (b : ToBlk w g te u h) (A : Option Addr) (n c : Nat) : ToBlk (w.setCell ⟨g, 2, none⟩ (.slice A n c)) g te u ⟨A, n, c⟩ := by
  unfold ToBlk at *
  simp [World.setCell, Array.getElem?_modify, b, topoCells]
/-- Many things, some of which are read. -/
def ManyS {α : Type} (p : Pa α) (o : Option (List Nat)) (c j : Nat) (es : List α) (oj : Option (List Nat)) : Prop := ∀ (β : Type) (R : List α → Pa β), goO o ((manyP p c).bind R) = goO oj ((manyP p (c - j)).bind fun l => R (es ++ l))
theorem ManyS.start {α : Type} (p : Pa α) (o : Option (List Nat)) (c : Nat) : ManyS p o c 0 [] o := fun β R => rfl
theorem ManyS.step {α : Type} {p : Pa α} {o oj oj' : Option (List Nat)} {c j : Nat} {es : List α} {a : α} (h : ManyS p o c j es oj) (hj : j < c) (hp : ∀ (β : Type) (Q : α → Pa β), goO oj (p.bind Q) = goO oj' (Q a)) : ManyS p o c (j + 1) (es ++ [a]) oj' := fun β R => by
  rw [h β R, show c - j = (c - (j + 1)) + 1 by omega, go_many_succ, hp]
  simp only [List.append_assoc, List.singleton_append]
theorem ManyS.end_ {α : Type} {p : Pa α} {o oj : Option (List Nat)} {c : Nat} {es : List α} (h : ManyS p o c c es oj) (β : Type) (R : List α → Pa β) : goO o ((manyP p c).bind R) = goO oj (R es) := by
  rw [h β R, Nat.sub_self, go_many_zero, List.append_nil]
/-- Lists of edges, each a row of its own; K are the blocks that are finished. -/
structure Hps (w : World) (M b6 te : Nat) (u : SlV) (up : List Bool) (K : Nat → Prop) (h : SlV) (S : List SlV) (acc : List (List (Int × Int))) : Prop where
  bx : ToBlk w b6 te u h
  upr : w.ownsRow M 4 1 (.slice u.A u.n u.c) u.n (up.map Value.bool)
  upk : ∀ b, (Value.slice u.A u.n u.c).ownBlock = some b → K b
  row : w.ownsRow M 96 1 (.slice h.A h.n h.c) h.n (S.map SlV.val)
  len : acc.length = h.n
  each : ∀ (j : Nat) (s : SlV) (r : List (Int × Int)), S[j]? = some s → acc[j]? = some r → w.ownsRow M 99 2 (.slice s.A s.n s.c) s.n (r.flatMap edgeCells) ∧ r.length = s.n ∧ s.n ≤ 255 ∧ ∀ b, (Value.slice s.A s.n s.c).ownBlock = some b → K b
  kk : ∀ b, K b → M ≤ b ∧ b ≠ b6 ∧ (Value.slice h.A h.n h.c).ownBlock ≠ some b
  b6M : b6 < M
  klt : ∀ b, K b → b < w.heap.size
section
variable {w w' : World} {M b6 te : Nat} {u h : SlV} {up : List Bool} {K : Nat → Prop} {S : List SlV} {acc : List (List (Int × Int))}
theorem Hps.slen (p : Hps w M b6 te u up K h S acc) : S.length = h.n := by have := p.row.1; simpa using this
theorem Hps.turned {G : Nat → Prop} (p : Hps w M b6 te u up K h S acc) (k : Turned G w w') (hG : ∀ b, G b → ¬ K b ∧ b ≠ b6 ∧ (Value.slice h.A h.n h.c).ownBlock ≠ some b) : Hps w' M b6 te u up K h S acc :=
  ⟨p.bx.turned k (fun e => (hG _ e).2.1 rfl), k.owns p.upr (fun b hb e => (hG b e).1 (p.upk b hb)), p.upk, k.owns p.row (fun b hb e => (hG b e).2.2 hb), p.len,
    fun j s r hs hr => ⟨k.owns (p.each j s r hs hr).1 (fun b hb e => (hG b e).1 ((p.each j s r hs hr).2.2.2 b hb)), (p.each j s r hs hr).2⟩, p.kk, p.b6M, fun b hb => Nat.lt_of_lt_of_le (p.klt b hb) k.size⟩
theorem Hps.keep (p : Hps w M b6 te u up K h S acc) (k : Keep w w') : Hps w' M b6 te u up K h S acc := p.turned (G := fun _ => False) (Turned.of_keep k) (fun _ e => e.elim)
/-- A list of edges more. -/
theorem Hps.push {w2 : World} {s : SlV} {r : List (Int × Int)} {A2 : Option Addr} {c2 : Nat} (p : Hps w M b6 te u up K h S acc) (hr : w.ownsRow M 99 2 (.slice s.A s.n s.c) s.n (r.flatMap edgeCells)) (hl : r.length = s.n) (h255 : s.n ≤ 255)
    (hd : ∀ b, (Value.slice s.A s.n s.c).ownBlock = some b → ¬ K b ∧ b ≠ b6 ∧ (Value.slice h.A h.n h.c).ownBlock ≠ some b) (g2 : w.grownBy w2 (Value.slice h.A h.n h.c).ownBlock)
    (row2 : w2.ownsRow M 96 1 (.slice A2 (h.n + 1) c2) (h.n + 1) (S.map SlV.val ++ [.slice s.A s.n s.c])) (own2 : (Value.slice A2 (h.n + 1) c2).ownBlock = (Value.slice h.A h.n h.c).ownBlock ∨ (Value.slice A2 (h.n + 1) c2).ownBlock = some w.heap.size) :
    ToBlk w2 b6 te u h ∧ Hps (w2.setCell ⟨b6, 2, none⟩ (.slice A2 (h.n + 1) c2)) M b6 te u up (fun b => K b ∨ (Value.slice s.A s.n s.c).ownBlock = some b) ⟨A2, h.n + 1, c2⟩ (S ++ [s]) (acc ++ [r]) := by
  have hown : ∀ b, (Value.slice h.A h.n h.c).ownBlock = some b → M ≤ b := fun b hb => (World.ownsRow.lt p.row b hb).1
  have T : Turned (fun b => (Value.slice h.A h.n h.c).ownBlock = some b) w w2 := Turned.of_grown g2 (fun i e => e)
  have bx2 : ToBlk w2 b6 te u h := p.bx.turned T (fun e => by have := hown _ e; have := p.b6M; omega)
  have T2 : Turned (fun b => b = b6) w2 (w2.setCell ⟨b6, 2, none⟩ (.slice A2 (h.n + 1) c2)) := Turned.set w2 _ _ rfl
  have hne6 : ∀ {base : Nat} {e size n c : Nat} {A : Option Addr} {l : List Value} {wx : World}, wx.ownsRow M e size (.slice A n c) n l → ∀ b, (Value.slice A n c).ownBlock = some b → ¬ b = b6 := fun hx b hb e => by
    have := (World.ownsRow.lt hx b hb).1; have := p.b6M; omega
  refine ⟨bx2, bx2.hp A2 _ c2, T2.owns (T.owns p.upr (fun b hb e => (p.kk b (p.upk b hb)).2.2 e)) (hne6 (base := 0) p.upr), fun b hb => Or.inl (p.upk b hb), ?_, by rw [List.length_append, p.len]; rfl, ?_, ?_, p.b6M, ?_⟩
  · rw [List.map_append]
    exact T2.owns row2 (hne6 (base := 0) row2)
  · intro j s' r' hs hr'
    rcases Nat.lt_or_ge j S.length with hj | hj
    · rw [List.getElem?_append_left hj] at hs
      rw [List.getElem?_append_left (by rw [p.len, ← p.slen]; exact hj)] at hr'
      obtain ⟨q1, q2, q3, q4⟩ := p.each j s' r' hs hr'
      exact ⟨T2.owns (T.owns q1 (fun b hb e => (p.kk b (q4 b hb)).2.2 e)) (hne6 (base := 0) q1), q2, q3, fun b hb => Or.inl (q4 b hb)⟩
    · rw [List.getElem?_append_right hj] at hs
      have hja : acc.length ≤ j := by rw [p.len, ← p.slen]; exact hj
      rw [List.getElem?_append_right hja] at hr'
      have e1 : j - S.length = 0 := by
        rcases Nat.lt_or_ge (j - S.length) 1 with h1 | h1
        · omega
        · rw [List.getElem?_eq_none (by simpa using h1)] at hs; cases hs
      have e2 : j - acc.length = 0 := by rw [p.len, ← p.slen]; exact e1
      rw [e1] at hs
      rw [e2] at hr'
      simp at hs hr'
      subst hs; subst hr'
      exact ⟨T2.owns (T.owns hr (fun b hb e => (hd b hb).2.2 e)) (hne6 (base := 0) hr), hl, h255, fun b hb => Or.inr hb⟩
  · intro b hb
    have hlt : ∀ b, (K b ∨ (Value.slice s.A s.n s.c).ownBlock = some b) → M ≤ b ∧ b ≠ b6 ∧ (Value.slice h.A h.n h.c).ownBlock ≠ some b := fun b hb => by
      rcases hb with e | e
      · exact p.kk b e
      · exact ⟨(World.ownsRow.lt hr b e).1, (hd b e).2⟩
    obtain ⟨q1, q2, q3⟩ := hlt b hb
    refine ⟨q1, q2, fun e => ?_⟩
    rcases own2 with e2 | e2
    · exact q3 (e2 ▸ e)
    · -- a new block is none of the finished ones
      have hbl : b < w.heap.size := by
        rcases hb with e3 | e3
        · exact p.klt b e3
        · exact (World.ownsRow.lt hr b e3).2
      rw [e2] at e
      injection e with e
      omega
  · intro b hb
    have hs2 : (w2.setCell ⟨b6, 2, none⟩ (.slice A2 (h.n + 1) c2)).heap.size = w2.heap.size := by simp [World.setCell]
    rw [hs2]
    rcases hb with e | e
    · exact Nat.lt_of_lt_of_le (p.klt b e) g2.size
    · exact Nat.lt_of_lt_of_le (World.ownsRow.lt hr b e).2 g2.size
/-- What they are, at the end: in blocks from M on. -/
theorem Hps.ends (p : Hps w M b6 te u up K h S acc) : UpsAt w w.heap.size u.A u.n up ∧ HopsAt w w.heap.size h.A h.n acc ∧ (∀ G w', Turned G w w' → (∀ b, G b → b < M) → UpsAt w' w'.heap.size u.A u.n up ∧ HopsAt w' w'.heap.size h.A h.n acc) := by
  have main : ∀ G w', Turned G w w' → (∀ b, G b → b < M) → UpsAt w' w'.heap.size u.A u.n up ∧ HopsAt w' w'.heap.size h.A h.n acc := fun G w' k hG => by
    have ne : ∀ {e size n c : Nat} {A : Option Addr} {l : List Value}, w.ownsRow M e size (.slice A n c) n l → ∀ b, (Value.slice A n c).ownBlock = some b → ¬ G b := fun hx b hb e => by
      have := (World.ownsRow.lt hx b hb).1; have := hG b e; omega
    refine ⟨ups_owned (k.owns p.upr (ne p.upr)), S, p.slen, p.len, fun i s r hs hr => ?_, fun hn => ?_⟩
    · obtain ⟨q1, q2, q3, _⟩ := p.each i s r hs hr
      exact ⟨edges_owned (k.owns q1 (ne q1)) q2, by omega, owns_le q1⟩
    · obtain ⟨g, hA, h1, h2, h3⟩ := owns_at (k.owns p.row (ne p.row)) hn
      refine ⟨g, 0, hA, h2, fun i s hs => ?_⟩
      have hi : i < S.length := by
        rcases Nat.lt_or_ge i S.length with h1 | h1
        · exact h1
        · rw [List.getElem?_eq_none h1] at hs; cases hs
      rw [Nat.zero_add, h3 i (by rw [← p.slen]; omega), List.getElem?_map, hs]
      rfl
  exact ⟨(main (fun _ => False) w (Turned.refl _ _) (fun _ e => e.elim)).1, (main (fun _ => False) w (Turned.refl _ _) (fun _ e => e.elim)).2, main⟩
end
end Go.Proofs.YtifopodnceopjaaGreatDoor
/- The landed frames: readTopo. -/
namespace Go.Proofs.YtifopodnceopjaaGreatDoor
open Go.RowKit Fr
set_option linter.unusedVariables false
set_option linter.unusedSimpArgs false
/-- What readTopo tells: a topology, that lies still as long as nothing from H on is written; or nothing, where a mark is none. -/
def TopoTold (F : Nat → Prop) (N ge gr : Nat) (o : Option (List Nat)) (w : World) (e : Ending) (w' : World) : Prop :=
  ∃ (te : Nat) (u hs : SlV) (up : List Bool) (hp : List (List (Int × Int))) (o' : Option (List Nat)), e = .returned (.agg (topoCells te u hs)) ∧ (∀ G w'', Turned G w' w'' → (∀ b, G b → b < w.heap.size) → UpsAt w'' w''.heap.size u.A u.n up ∧ HopsAt w'' w''.heap.size hs.A hs.n hp) ∧
    u.ok ∧ hs.ok ∧ U64 te ∧ (∀ l ∈ hp, ∀ e ∈ l, I64 e.1 ∧ I64 e.2) ∧ RdS w' F N ge gr o' ∧ Turned F w w' ∧
    ((∀ (β : Type) (Q : Nat → List Bool → List (List (Int × Int)) → Pa β), goO o (topoQ Q) = goO o' (Q te up hp)) ∨ (te = 0 ∧ ∀ (β : Type) (Q : Nat → List Bool → List (List (Int × Int)) → Pa β), goO o (topoQ Q) = none))
theorem nxtB_len (n : Nat) (o : Option (List Nat)) : (nxtB n o).length ≤ n := by
  unfold nxtB
  cases o with
  | none => simp
  | some L =>
    dsimp only
    split
    · rw [List.length_take]; omega
    · simp
theorem turned_row (w : World) (g : Nat) (cs : Array Value) : Turned (fun b => b = g) w (w.setRow g cs) :=
  ⟨rfl, rfl, rfl, by rw [setRow_size]; exact Nat.le_refl _, fun i _ hi => setRow_other w g i cs hi⟩
set_option maxRecDepth 100000 in
set_option maxHeartbeats 8000000 in
theorem readtopo_any (F : Nat → Prop) (N ge gr : Nat) (o : Option (List Nat)) (w : World) (h : RdS w F N ge gr o) (hgr : gr < N) :
    Calls Tryz.prog 85 #[numF ge gr, takF ge gr] w (TopoTold F N ge gr o w) := by
  obtain ⟨H, hH⟩ : ∃ H, w.heap.size = H := ⟨_, rfl⟩
  have hN : N ≤ H := by rw [← hH]; exact h.2.2.1
  have HFN : Hid (∀ b, F b → b < N) := h.2.1
  obtain ⟨w1, hw1⟩ : ∃ w1, (w.alloc (.cells #[.func (.func 109) #[] #[.pointer (some ⟨ge, 0, none⟩), .pointer (some ⟨gr, 0, none⟩)]] 145)).alloc (.cells #[.int .u64 0, .slice none 0 0, .slice none 0 0] 50) = w1 := ⟨_, rfl⟩
  have k1 : Keep w w1 := by rw [← hw1]; exact ((Keep.refl w).alloc _ _).alloc _ _
  have c1 : w1.cell? ⟨H, 0, none⟩ = some (numF ge gr) := by
    have h1 := heap_alloc_new w (.cells #[.func (.func 109) #[] #[.pointer (some ⟨ge, 0, none⟩), .pointer (some ⟨gr, 0, none⟩)]] 145)
    rw [hH] at h1
    rw [← hw1]
    exact cell_of_one ((((Keep.refl _).alloc _ _).block H (by simp; omega)).trans h1)
  have b4 : ToBlk w1 (H + 1) 0 ⟨none, 0, 0⟩ ⟨none, 0, 0⟩ := by
    have h1 := heap_alloc_new (w.alloc (.cells #[.func (.func 109) #[] #[.pointer (some ⟨ge, 0, none⟩), .pointer (some ⟨gr, 0, none⟩)]] 145)) (.cells #[.int .u64 0, .slice none 0 0, .slice none 0 0] 50)
    rw [hw1, show (w.alloc (.cells #[.func (.func 109) #[] #[.pointer (some ⟨ge, 0, none⟩), .pointer (some ⟨gr, 0, none⟩)]] 145)).heap.size = H + 1 by simp; omega] at h1
    exact h1
  have t1 : RfT w F N ge gr H w1 o := ⟨h.keep k1, c1, hN, hgr, Turned.of_keep k1⟩
  have HE8 := Lib.hid t1.eight
  have T1 := Lib.hid t1
  have B4 := Lib.hid b4
  unfold numF at c1
  have HW1 := Lib.hid hw1
  have HHH := Lib.hid hH
  clear t1 b4 k1 h hw1
  simp only [numF, takF]
  go_enter Tryz.func85, Tryz.ntmps85
  go_upto_region 2 with fail
  rw [HW1.out]
  clear hH
  go_wp2_with fail
  refine HE8.out.mono ?_
  rintro e w2 ⟨rfl, r2, tn2⟩
  have t2 := T1.out.next ⟨r2, tn2⟩
  have b42 := B4.out.turned tn2 (fun e => by have := HFN.out _ e; omega)
  have hte := nxt8_lt T1.out.rd
  obtain ⟨te, hteq⟩ : ∃ te, nxtN 8 o = te := ⟨_, rfl⟩
  rw [hteq] at hte ⊢
  obtain ⟨b6, hb6⟩ : ∃ b6, w2.heap.size = b6 := ⟨_, rfl⟩
  obtain ⟨w3, hw3⟩ : ∃ w3, w2.alloc (.cells #[.int .u64 (te : Int), .slice none 0 0, .slice none 0 0] 50) = w3 := ⟨_, rfl⟩
  have k3 : Keep w2 w3 := by rw [← hw3]; exact (Keep.refl w2).alloc _ _
  have bx3 : ToBlk w3 b6 te ⟨none, 0, 0⟩ ⟨none, 0, 0⟩ := by
    have := heap_alloc_new w2 (.cells #[.int .u64 (te : Int), .slice none 0 0, .slice none 0 0] 50)
    rw [hw3, hb6] at this
    exact this
  have t3 := t2.keep k3
  have b43 := b42.turned (G := fun _ => False) (Turned.of_keep k3) (fun e => e)
  have hH6 : H + 1 < b6 := by have := b42.lt; omega
  have HO1 := Lib.hid t3.tone
  have T3 := Lib.hid t3
  have B43 := Lib.hid b43
  have BX3 := Lib.hid bx3
  have HTE := Lib.hid hteq
  have HW3 := Lib.hid hw3
  have HB6 := Lib.hid hb6
  clear r2 tn2 t2 b42 k3 bx3 t3 b43 c1 hteq HE8 T1 B4
  clear hw3 hb6
  go_upto_region 3 with fail
  rw [HB6.out, HW3.out]
  go_wp2_with fail
  refine HO1.out.mono ?_
  rintro e w4 ⟨rfl, n4⟩
  have t4 := T3.out.next n4
  have T3' := Lib.hid T3.out.rd
  have b44 := B43.out.turned n4.2 (fun e => by have := HFN.out _ e; omega)
  have bx4 := BX3.out.turned n4.2 (fun e => by have := HFN.out _ e; omega)
  obtain ⟨n, hn⟩ : ∃ n, nxtN 1 (nxtO 8 o) = n := ⟨_, rfl⟩
  rw [hn]
  have HTK := Lib.hid (rdtake_any F N ge gr n _ w4 t4.rd)
  have T4 := Lib.hid t4
  have B44 := Lib.hid b44
  have BX4 := Lib.hid bx4
  have HNN := Lib.hid hn
  clear n4 t4 b44 bx4 hn T3 B43 BX3 HO1
  go_wp2_with fail
  refine HTK.out.mono ?_
  rintro e w5 ⟨Al, k, cl, rfl, ol, n5⟩
  have t5 := T4.out.next n5
  have b45 := B44.out.turned n5.2 (fun e => by have := HFN.out _ e; omega)
  have bx5 := BX4.out.turned n5.2 (fun e => by have := HFN.out _ e; omega)
  have h64 := BX4.out.lt
  obtain ⟨l, hl⟩ : ∃ l, nxtB n (nxtO 1 (nxtO 8 o)) = l := ⟨_, rfl⟩
  rw [hl] at ol
  have lk := ol.length
  have hk255 : k ≤ 255 := by
    have h1 := nxt1_lt T3'.out
    rw [HNN.out] at h1
    have h2 := nxtB_len n (nxtO 1 (nxtO 8 o))
    rw [hl, lk] at h2
    omega
  have hM : b6 < w5.heap.size := bx5.lt
  obtain ⟨M, hMe⟩ : ∃ M, w5.heap.size = M := ⟨_, rfl⟩
  rw [hMe] at hM
  have HB : Hid (∀ i, i < k → ∃ p, Al = some ⟨p, 0, none⟩ ∧ b6 < p ∧ p < M ∧ w5.cell? ⟨p, i, none⟩ = some (.int .u8 ((l.getD i 0 : Nat) : Int)) ∧ l.getD i 0 < 256) := fun i hi => by
    obtain ⟨p, rfl, h1, h2⟩ := ol.block (by omega)
    exact ⟨p, rfl, by omega, by omega, ol.cell hi, ol.2.getD i⟩
  have T5 := Lib.hid t5
  have B45 := Lib.hid b45
  have BX5 := Lib.hid bx5
  have HLL := Lib.hid hl
  have HMM := Lib.hid hMe
  have HLK := Lib.hid lk
  clear n5 t5 b45 bx5 ol h64 hl lk hMe T4 B44 BX4 HTK
  go_wp2_with fail
  go_loopw [19] (fun iv wr => ∃ (i : Nat) (Au : Option Addr) (cu : Nat), i ≤ k ∧ iv = .int .i64 i ∧ (∀ j, j < i → l.getD j 0 ≤ 1) ∧ ToBlk wr b6 te ⟨Au, i, cu⟩ ⟨none, 0, 0⟩ ∧ wr.ownsRow M 4 1 (.slice Au i cu) i ((l.map fun x => Value.bool (x == 1)).take i) ∧ Turned (fun b => b = b6 ∨ M ≤ b) w5 wr) (fun iv _ => k - (intOf iv).toNat)
  case atStart => exact ⟨0, none, 0, by omega, rfl, fun j hj => by omega, BX5.out, World.ownsRow_nil _ _ _ _, Turned.refl _ _⟩
  case round =>
    obtain ⟨i, Au, cu, hi, rfl, hall, bx, ow, tn⟩ := hrel
    have T := Lib.hid (T5.out.turned tn (fun b hb => by have := HHH.out; rcases hb with e | e <;> omega))
    have B4r := Lib.hid (B45.out.turned tn (fun e => by rcases e with e | e <;> omega))
    have hsz := tn.size
    rw [HMM.out] at hsz
    by_cases hlt : i < k
    · obtain ⟨p, rfl, hp1, hp2, hp3, hp4⟩ := HB.out i hlt
      have cp := tn.cell hp3 (by show ¬ (p = b6 ∨ M ≤ p); omega)
      obtain ⟨_, x1, x2⟩ := bx.cells
      dsimp only at x1 x2
      have f1 := bx.free 1
      have f2 := bx.free 0
      have f3 := bx.free 2
      have e1 : (0 : Int) ≤ (i : Int) := Int.natCast_nonneg _
      have e2 : (i : Int) < (k : Int) := by omega
      have hlx : (l.map (fun x => Value.bool (x == 1))).take (i + 1) = (l.map (fun x => Value.bool (x == 1))).take i ++ [.bool (l.getD i 0 == 1)] := by
        have hil : i < l.length := by rw [HLK.out]; exact hlt
        rw [List.take_add_one, List.getElem?_map, List.getElem?_eq_getElem hil, List.getD_eq_getElem?_getD, List.getElem?_eq_getElem hil]
        rfl
      have HLX := Lib.hid hlx
      have HALL := Lib.hid hall
      have BX := Lib.hid bx
      have OW := Lib.hid ow
      have TN := Lib.hid tn
      obtain ⟨x, hx⟩ : ∃ x, l.getD i 0 = x := ⟨_, rfl⟩
      have HXX := Lib.hid hx
      rw [hx] at cp hp4
      clear hp3 hlx hall bx ow tn hx
      by_cases hx1 : x ≤ 1
      · have g1 : ¬ (1 : Int) < (x : Int) := by omega
        obtain ⟨v, hv⟩ : ∃ v, (x == 1) = v := ⟨_, rfl⟩
        have g2 : ((x : Int) == 1) = v := by
          rw [← hv]
          rcases Nat.lt_or_ge x 1 with h1 | h1
          · obtain rfl : x = 0 := by omega
            rfl
          · obtain rfl : x = 1 := by omega
            rfl
        have OWA : Hid ((wr.alloc (.cells #[.bool v] 4)).ownsRow M 4 1 (.slice Au i cu) i ((l.map fun x => Value.bool (x == 1)).take i)) := World.ownsRow.alloc OW.out _
        have HBASE : Hid (M ≤ (wr.alloc (.cells #[.bool v] 4)).heap.size) := by show M ≤ _; simp; omega
        have HC : Hid (∀ j u, [Value.bool v][j]? = some u → (wr.alloc (.cells #[.bool v] 4)).cell? ⟨wr.heap.size, j, none⟩ = some u) := fun j u hu => by
          rw [cell_of_row _ _ _ _ _ _ (heap_alloc_new wr _)]
          simpa using hu
        have hi9 : i ≤ 1000000 := by omega
        clear hv
        go_wp2_with (at_builtin; refine wpList_append_cells rfl _ _ 47 rfl [.bool v] Tryz.underlying47 infoBool rfl (by decide) (by decide) rfl OWA.out rfl rfl HC.out (by intro u hu; simp at hu; subst hu; rfl) hi9 HBASE.out ?_)
        intro A2 c2 w7 h7 g7 r7
        have hown : ∀ b, (Value.slice Au i cu).ownBlock = some b → M ≤ b := fun b hb => (World.ownsRow.lt OW.out b hb).1
        have tr7 : Turned (fun b => b = b6 ∨ M ≤ b) wr w7 := (Turned.of_keep ((Keep.refl wr).alloc _ _)).trans (Turned.of_grown (F := fun b => (Value.slice Au i cu).ownBlock = some b) g7 (fun i e => e)) (fun b e => Or.inl (Or.inr (hown b e)))
        have bx7 : ToBlk w7 b6 te ⟨Au, i, cu⟩ ⟨none, 0, 0⟩ := BX.out.turned ((Turned.of_keep (F := fun b => (Value.slice Au i cu).ownBlock = some b) ((Keep.refl wr).alloc _ _)).trans (Turned.of_grown (F := fun b => (Value.slice Au i cu).ownBlock = some b) g7 (fun i e => e)) (fun b e => Or.inl e)) (fun e => by have := hown _ e; omega)
        obtain ⟨_, y1, _⟩ := bx7.cells
        dsimp only at y1
        have y2 := bx7.free 1
        have T8 : Hid (Turned (fun b => b = b6 ∨ M ≤ b) w5 (w7.setCell ⟨b6, 1, none⟩ (.slice A2 (i + 1) c2))) := (TN.out.trans tr7 (fun b e => Or.inl e)).trans (Turned.set (F := fun b => b = b6) w7 _ _ rfl) (fun b e => Or.inl (Or.inl e))
        have BX8 := Lib.hid (bx7.up A2 (i + 1) c2)
        have OW8 : Hid ((w7.setCell ⟨b6, 1, none⟩ (.slice A2 (i + 1) c2)).ownsRow M 4 1 (.slice A2 (i + 1) c2) (i + 1) ((l.map fun x => Value.bool (x == 1)).take (i + 1))) := by
          show World.ownsRow _ _ _ _ _ _ _
          rw [HLX.out, HXX.out]
          have hv2 : (x == 1) = v := by
            rcases Nat.lt_or_ge x 1 with h1 | h1
            · obtain rfl : x = 0 := by omega
              exact g2
            · obtain rfl : x = 1 := by omega
              exact g2
          rw [hv2]
          exact (Turned.set (F := fun b => b = b6) w7 _ _ rfl).owns h7 (fun b hb e => by have := (World.ownsRow.lt h7 b hb).1; omega)
        have HALL8 : Hid (∀ j, j < i + 1 → l.getD j 0 ≤ 1) := fun j hj => by
          rcases Nat.lt_or_ge j i with h1 | h1
          · exact HALL.out j h1
          · obtain rfl : j = i := by omega
            rw [HXX.out]; exact hx1
        clear h7 g7 r7 tr7 bx7 hown x1 x2 f1 f2 f3 cp
        go_wp2_with fail
        go_roundw
        case rel => exact ⟨i + 1, A2, c2, by omega, by go_num, HALL8.out, BX8.out, OW8.out, T8.out⟩
        case measure => simp [intOf]; omega
      · have g1 : (1 : Int) < (x : Int) := by omega
        have RS := Lib.hid T.out.rd
        have TK := Lib.hid T.out.kp
        have b4r := B4r.out
        have HNO : Hid (¬ (nxtB n (nxtO 1 (nxtO 8 o))).all (· ≤ 1) = true) := fun e => by
          rw [HLL.out, List.all_eq_true] at e
          have hil : i < l.length := by rw [HLK.out]; exact hlt
          have h1 := e l[i] (List.getElem_mem hil)
          have h2 := HXX.out
          rw [List.getD_eq_getElem?_getD, List.getElem?_eq_getElem hil, Option.getD_some] at h2
          rw [h2] at h1
          simp at h1
          exact hx1 h1
        have HB4R := Lib.hid b4r
        unfold ToBlk at b4r
        simp only [topoCells] at b4r
        have hz0 : w.heap.size ≤ H + 1 := by have := HHH.out; omega
        clear x1 x2 f1 f2 f3
        go_wp2_with (refine wpList_store_rowTo rfl 50 (.tmp 4) (.tmp 25) rfl rfl (H + 1) #[.int .u64 0, .slice none 0 0, .slice none 0 0] rfl rfl 50 _ b4r infoTp rfl (by kernel_rfl) ?_)
        have RB := Lib.hid b4r
        refine bodyPost_ret (results_cell_row (p := 4) (ty := 50) resTopo _ _ (H + 1) 50 _ (0, 0) _ rfl (setRow_heap _ _ _ _ _ _ RB.out) Tryz.underlying50 rfl infoTp) rfl ?_
        have T9 := T.out.turned (turned_row wr (H + 1) #[.int .u64 0, .slice none 0 0, .slice none 0 0]) (fun b hb => by have := HHH.out; omega)
        refine ⟨0, ⟨none, 0, 0⟩, ⟨none, 0, 0⟩, [], [], _, rfl, fun _ _ _ _ => ⟨UpsAt.none_ _ _ _, HopsAt.none_ _ _ _⟩, ⟨by decide, by decide⟩, ⟨by decide, by decide⟩, (by show 0 < 18446744073709551616; decide), fun l hl => by simp at hl, T9.rd, T9.kp, Or.inr ⟨rfl, fun β Q => ?_⟩⟩
        unfold topoQ
        rw [go_num, go_num, go_up, HNN.out, if_neg HNO.out]
    · obtain rfl : i = k := by omega
      have hLl : (l.map fun x => Value.bool (x == 1)).take i = (l.map (· == 1)).map Value.bool := by
        rw [List.take_of_length_le (by rw [List.length_map, HLK.out]; exact Nat.le_refl _), List.map_map]
        rfl
      rw [hLl] at ow
      have hlen2 : (l.map (· == 1)).length = i := by rw [List.length_map]; exact HLK.out
      obtain ⟨up, hup⟩ : ∃ up, l.map (· == 1) = up := ⟨_, rfl⟩
      rw [hup] at ow hlen2
      have HALLT : Hid ((nxtB n (nxtO 1 (nxtO 8 o))).all (· ≤ 1) = true) := by
        show _ = true
        rw [HLL.out, List.all_eq_true]
        intro y hy
        obtain ⟨q, hq, rfl⟩ := List.mem_iff_getElem.1 hy
        have := hall q (by rw [← HLK.out]; exact hq)
        rw [List.getD_eq_getElem?_getD, List.getElem?_eq_getElem hq, Option.getD_some] at this
        simpa using this
      have P0 : Hps wr M b6 te ⟨Au, i, cu⟩ up (fun b => (Value.slice Au i cu).ownBlock = some b) ⟨none, 0, 0⟩ [] [] :=
        ⟨bx, ow, fun b hb => hb, World.ownsRow_nil _ _ _ _, rfl, fun j s r hs => by simp at hs, fun b hb => ⟨(World.ownsRow.lt ow b hb).1, fun e => by have := (World.ownsRow.lt ow b hb).1; omega, by simp [Value.ownBlock]⟩, hM, fun b hb => (World.ownsRow.lt ow b hb).2⟩
      have HO2 := Lib.hid T.out.tone
      have PP := Lib.hid P0
      have HUP := Lib.hid hup
      have hO3 := nxt1_lt T.out.rd
      obtain ⟨o3, ho3⟩ : ∃ o3, nxtO n (nxtO 1 (nxtO 8 o)) = o3 := ⟨_, rfl⟩
      rw [ho3] at HO2 hO3 T
      have HO3 := Lib.hid ho3
      obtain ⟨m, hm⟩ : ∃ m, nxtN 1 o3 = m := ⟨_, rfl⟩
      rw [hm] at HO2 hO3
      have HM3 := Lib.hid hm
      have OKU : Hid ((⟨Au, i, cu⟩ : SlV).ok) := ⟨show i ≤ 140737488351232 by omega, owns_le ow⟩
      clear bx ow hall tn hLl hlen2 hup P0 ho3 hm
      go_wp2_with fail
      refine HO2.out.mono ?_
      rintro e wa ⟨rfl, na⟩
      have ta := T.out.next na
      have pa := PP.out.turned na.2 (fun b hb => by
        have h1 := HFN.out b hb
        exact ⟨fun e => by have := (PP.out.kk b e).1; omega, by omega, by simp [Value.ownBlock]⟩)
      have b4a := B4r.out.turned na.2 (fun e => by have := HFN.out _ e; omega)
      have hMa : M ≤ wa.heap.size := Nat.le_trans hsz na.2.size
      obtain ⟨o4, ho4⟩ : ∃ o4, nxtO 1 o3 = o4 := ⟨_, rfl⟩
      rw [ho4] at ta
      have HO4 := Lib.hid ho4
      have TA := Lib.hid ta
      have PA := Lib.hid pa
      have B4A := Lib.hid b4a
      clear na ta pa b4a ho4 HO2 T PP B4r
      go_wp2_with fail
      go_loopw [36] (fun iv wr => ∃ (q : Nat) (hs : SlV) (S : List SlV) (acc : List (List (Int × Int))) (oi : Option (List Nat)) (K : Nat → Prop), q ≤ m ∧ iv = .int .i64 q ∧ hs.n = q ∧ RfT w F N ge gr H wr oi ∧ ManyS hopP o4 m q acc oi ∧ Hps wr M b6 te ⟨Au, i, cu⟩ up K hs S acc ∧ (∀ l ∈ acc, ∀ e ∈ l, I64 e.1 ∧ I64 e.2) ∧ ToBlk wr (H + 1) 0 ⟨none, 0, 0⟩ ⟨none, 0, 0⟩ ∧ M ≤ wr.heap.size) (fun iv _ => m - (intOf iv).toNat)
      case atStart => exact ⟨0, ⟨none, 0, 0⟩, [], [], o4, _, by omega, rfl, rfl, TA.out, ManyS.start _ _ _, PA.out, fun l hl => by simp at hl, B4A.out, hMa⟩
      case round =>
        obtain ⟨wz, rfl⟩ : ∃ wz, wz = wr := ⟨_, rfl⟩
        obtain ⟨q, hs, S, acc, oi, K, hq, rfl, hsn, t, ms, p, hbd, b4, hMz⟩ := hrel
        obtain ⟨Ah, nh, ch⟩ := hs
        dsimp only at hsn
        subst hsn
        have f1 : (0 : Int) ≤ (nh : Int) := Int.natCast_nonneg _
        by_cases hlt2 : nh < m
        · have f2 : (nh : Int) < (m : Int) := by omega
          have HO5 := Lib.hid t.tone
          have T := Lib.hid t
          have MS := Lib.hid ms
          have P := Lib.hid p
          have BD := Lib.hid hbd
          have BZ := Lib.hid b4
          have hc0 := nxt1_lt t.rd
          obtain ⟨c, hc⟩ : ∃ c, nxtN 1 oi = c := ⟨_, rfl⟩
          rw [hc] at HO5 hc0
          have HCC := Lib.hid hc
          clear t ms p hbd b4 hc
          go_wp2_with fail
          refine HO5.out.mono ?_
          rintro e wb ⟨rfl, nb⟩
          have hFK : ∀ b, F b → ¬ K b ∧ b ≠ b6 ∧ (Value.slice Ah nh ch).ownBlock ≠ some b := fun b hb => by
            have h1 := HFN.out b hb
            exact ⟨fun e => by have := (P.out.kk b e).1; omega, by omega, fun e => by have := (World.ownsRow.lt P.out.row b e).1; omega⟩
          have HFK := Lib.hid hFK
          have TB := Lib.hid (T.out.next nb)
          have PB := Lib.hid (P.out.turned nb.2 hFK)
          have BB := Lib.hid (BZ.out.turned nb.2 (fun e => by have := HFN.out _ e; omega))
          have hMb : M ≤ wb.heap.size := Nat.le_trans hMz nb.2.size
          obtain ⟨o5, ho5⟩ : ∃ o5, nxtO 1 oi = o5 := ⟨_, rfl⟩
          rw [ho5] at TB
          have HO55 := Lib.hid ho5
          clear nb hFK ho5 HO5 T P BZ
          go_wp2_with fail
          go_loopw [9, 40] (fun sv iv wr => ∃ (j : Nat) (Ae : Option Addr) (ce : Nat) (es : List (Int × Int)) (oj : Option (List Nat)), j ≤ c ∧ iv = .int .i64 j ∧ sv = .slice Ae j ce ∧ RfT w F N ge gr H wr oj ∧ ManyS edgeP o5 c j es oj ∧ wr.ownsRow M 99 2 (.slice Ae j ce) j (es.flatMap edgeCells) ∧ es.length = j ∧ (∀ b, (Value.slice Ae j ce).ownBlock = some b → ¬ K b ∧ b ≠ b6 ∧ (Value.slice Ah nh ch).ownBlock ≠ some b) ∧ Hps wr M b6 te ⟨Au, i, cu⟩ up K ⟨Ah, nh, ch⟩ S acc ∧ (∀ e ∈ es, I64 e.1 ∧ I64 e.2) ∧ ToBlk wr (H + 1) 0 ⟨none, 0, 0⟩ ⟨none, 0, 0⟩ ∧ M ≤ wr.heap.size) (fun _ iv _ => c - (intOf iv).toNat)
          case atStart => exact ⟨0, none, 0, [], o5, by omega, rfl, rfl, TB.out, ManyS.start _ _ _, World.ownsRow_nil _ _ _ _, rfl, fun b hb => by simp [Value.ownBlock] at hb, PB.out, fun e he => by simp at he, BB.out, hMb⟩
          case round =>
            obtain ⟨j, Ae, ce, es, oj, hj, rfl, rfl, t, ms, ow, hesl, hdis, p, hbd, b4, hMr⟩ := hrel
            have T := Lib.hid t
            have ME := Lib.hid ms
            have OW := Lib.hid ow
            have HDIS := Lib.hid hdis
            have P := Lib.hid p
            have BE := Lib.hid hbd
            have BZ := Lib.hid b4
            have HESL := Lib.hid hesl
            have HO6 := Lib.hid t.tone
            have ha0 := nxt1_lt t.rd
            have e1 : (0 : Int) ≤ (j : Int) := Int.natCast_nonneg _
            clear t ms ow hesl hdis p hbd b4
            by_cases hjl : j < c
            · have e2 : (j : Int) < (c : Int) := by omega
              obtain ⟨a, hav⟩ : ∃ a, nxtN 1 oj = a := ⟨_, rfl⟩
              rw [hav] at HO6 ha0
              have HAV := Lib.hid hav
              clear hav
              go_wp2_with fail
              refine HO6.out.mono ?_
              rintro e wc ⟨rfl, nc⟩
              have tc := T.out.next nc
              have pc := P.out.turned nc.2 HFK.out
              have bc := BZ.out.turned nc.2 (fun e => by have := HFN.out _ e; omega)
              have owc := nc.2.owns OW.out (fun b hb e => by have := (World.ownsRow.lt OW.out b hb).1; have := HFN.out b e; omega)
              have hMc : M ≤ wc.heap.size := Nat.le_trans hMr nc.2.size
              have HO7 := Lib.hid tc.tone
              have hb0 := nxt1_lt tc.rd
              obtain ⟨v, hvv⟩ : ∃ v, nxtN 1 (nxtO 1 oj) = v := ⟨_, rfl⟩
              rw [hvv] at HO7 hb0
              have HVV := Lib.hid hvv
              have TC := Lib.hid tc
              have PC := Lib.hid pc
              have BC := Lib.hid bc
              have OWC := Lib.hid owc
              clear nc tc pc bc owc hvv T P BZ OW HO6
              go_wp2_with fail
              refine HO7.out.mono ?_
              rintro e wd ⟨rfl, nd⟩
              have td := TC.out.next nd
              have pd := PC.out.turned nd.2 HFK.out
              have bd := BC.out.turned nd.2 (fun e => by have := HFN.out _ e; omega)
              have owd := nd.2.owns OWC.out (fun b hb e => by have := (World.ownsRow.lt OWC.out b hb).1; have := HFN.out b e; omega)
              have hMd : M ≤ wd.heap.size := Nat.le_trans hMc nd.2.size
              have TD := Lib.hid td
              have PD := Lib.hid pd
              have BDD := Lib.hid bd
              have OWD := Lib.hid owd
              have OWA : Hid ((wd.alloc (.cells #[.int .i64 (a : Int), .int .i64 (v : Int)] 99)).ownsRow M 99 2 (.slice Ae j ce) j (es.flatMap edgeCells)) := World.ownsRow.alloc owd _
              have HBASE : Hid (M ≤ (wd.alloc (.cells #[.int .i64 (a : Int), .int .i64 (v : Int)] 99)).heap.size) := by show M ≤ _; simp; omega
              have HC : Hid (∀ j u, [Value.int .i64 (a : Int), .int .i64 (v : Int)][j]? = some u → (wd.alloc (.cells #[.int .i64 (a : Int), .int .i64 (v : Int)] 99)).cell? ⟨wd.heap.size, j, none⟩ = some u) := fun j u hu => by
                rw [cell_of_row _ _ _ _ _ _ (heap_alloc_new wd _)]
                simpa using hu
              have hi9 : j ≤ 1000000 := by omega
              clear nd td pd bd owd TC PC BC OWC HO7
              go_wp2_with (at_builtin; refine wpList_append_cells rfl _ _ 96 rfl [.int .i64 (a : Int), .int .i64 (v : Int)] Tryz.underlying96 infoEdge rfl (by decide) (by decide) rfl OWA.out rfl rfl HC.out (by intro u hu; simp at hu; rcases hu with rfl | rfl <;> rfl) hi9 HBASE.out ?_)
              intro A2 c2 we h7 g7 r7
              have kd : Keep wd (wd.alloc (.cells #[.int .i64 (a : Int), .int .i64 (v : Int)] 99)) := (Keep.refl wd).alloc _ _
              have T7 : Turned (fun b => (Value.slice Ae j ce).ownBlock = some b) wd we := (Turned.of_keep (F := fun b => (Value.slice Ae j ce).ownBlock = some b) kd).trans (Turned.of_grown (F := fun b => (Value.slice Ae j ce).ownBlock = some b) g7 (fun i e => e)) (fun b e => Or.inl e)
              have hlo : ∀ b, (Value.slice Ae j ce).ownBlock = some b → M ≤ b := fun b hb => (World.ownsRow.lt OWD.out b hb).1
              have TE := Lib.hid (TD.out.turned T7 (fun b hb => by have := hlo b hb; have := HHH.out; omega))
              have PE := Lib.hid (PD.out.turned T7 HDIS.out)
              have BE2 := Lib.hid (BDD.out.turned T7 (fun e => by have := hlo _ e; omega))
              have OWE : Hid (we.ownsRow M 99 2 (.slice A2 (j + 1) c2) (j + 1) ((es ++ [((a : Int), (v : Int))]).flatMap edgeCells)) := by
                show World.ownsRow _ _ _ _ _ _ _
                rw [List.flatMap_append]
                simpa [edgeCells] using h7
              have MS7 : Hid (ManyS edgeP o5 c (j + 1) (es ++ [((a : Int), (v : Int))]) (nxtO 1 (nxtO 1 oj))) := ME.out.step hjl (fun β Q => by rw [go_edge, HAV.out, HVV.out])
              have DIS7 : Hid (∀ b, (Value.slice A2 (j + 1) c2).ownBlock = some b → ¬ K b ∧ b ≠ b6 ∧ (Value.slice Ah nh ch).ownBlock ≠ some b) := fun b hb => by
                rcases r7 with e | e
                · exact HDIS.out b (e ▸ hb)
                · rw [e] at hb
                  injection hb with hb
                  have hb : wd.heap.size + 1 = b := by simpa using hb
                  exact ⟨fun e => by have := PD.out.klt b e; omega, by omega, fun e => by have := (World.ownsRow.lt PD.out.row b e).2; omega⟩
              have BE7 : Hid (∀ e ∈ es ++ [((a : Int), (v : Int))], I64 e.1 ∧ I64 e.2) := fun e he => by
                rcases List.mem_append.1 he with h1 | h1
                · exact BE.out e h1
                · simp at h1
                  subst h1
                  unfold I64
                  dsimp only
                  omega
              have hMe : M ≤ we.heap.size := Nat.le_trans hMd T7.size
              have HEL : Hid ((es ++ [((a : Int), (v : Int))]).length = j + 1) := by show _ = _; rw [List.length_append, HESL.out, List.length_singleton]
              clear h7 g7 r7 kd T7 hlo TD PD BDD OWD OWA HBASE HC
              go_wp2_with fail
              exact ⟨⟨j + 1, A2, c2, _, _, by omega, by go_num, rfl, TE.out, MS7.out, OWE.out, HEL.out, DIS7.out, PE.out, BE7.out, BE2.out, hMe⟩, by simp [intOf]; omega⟩
            · obtain rfl : j = c := by omega
              have ML : Hid (ManyS hopP o4 m (nh + 1) (acc ++ [es]) oj) := MS.out.step hlt2 (fun β Q => by rw [go_hop, HCC.out, HO55.out, ME.out.end_])
              obtain ⟨_, _, x2⟩ := P.out.bx.cells
              dsimp only at x2
              have OWA : Hid ((wr.alloc (.cells #[.slice Ae j ce] 96)).ownsRow M 96 1 (.slice Ah nh ch) nh (S.map SlV.val)) := World.ownsRow.alloc P.out.row _
              have HBASE : Hid (M ≤ (wr.alloc (.cells #[.slice Ae j ce] 96)).heap.size) := by show M ≤ _; simp; omega
              have HC : Hid (∀ q u, [Value.slice Ae j ce][q]? = some u → (wr.alloc (.cells #[.slice Ae j ce] 96)).cell? ⟨wr.heap.size, q, none⟩ = some u) := fun q u hu => by
                rw [cell_of_row _ _ _ _ _ _ (heap_alloc_new wr _)]
                simpa using hu
              have hi9 : nh ≤ 1000000 := by omega
              have hj255 : j ≤ 255 := by omega
              go_wp2_with (at_builtin; refine wpList_append_cells rfl _ _ 48 rfl [.slice Ae j ce] Tryz.underlying48 infoEdges rfl (by decide) (by decide) rfl OWA.out rfl rfl HC.out (by intro u hu; simp at hu; subst hu; rfl) hi9 HBASE.out ?_)
              intro A2 c2 we h7 g7 r7
              have ka : Keep wr (wr.alloc (.cells #[.slice Ae j ce] 96)) := (Keep.refl wr).alloc _ _
              have T7 : Turned (fun b => (Value.slice Ah nh ch).ownBlock = some b) wr we := (Turned.of_keep (F := fun b => (Value.slice Ah nh ch).ownBlock = some b) ka).trans (Turned.of_grown (F := fun b => (Value.slice Ah nh ch).ownBlock = some b) g7 (fun i e => e)) (fun b e => Or.inl e)
              have hlo : ∀ b, (Value.slice Ah nh ch).ownBlock = some b → M ≤ b := fun b hb => (World.ownsRow.lt P.out.row b hb).1
              obtain ⟨bx7, P7⟩ := Hps.push (s := ⟨Ae, j, ce⟩) (r := es) (P.out.keep ka) (owns_keep OW.out ka) HESL.out hj255 HDIS.out g7 h7 (by simpa using r7)
              obtain ⟨_, _, y2⟩ := bx7.cells
              dsimp only at y2
              have y3 := bx7.free 2
              obtain ⟨wf, hwf⟩ : ∃ wf, we.setCell ⟨b6, 2, none⟩ (.slice A2 (nh + 1) c2) = wf := ⟨_, rfl⟩
              dsimp only at P7
              rw [hwf] at P7
              have TS : Turned (fun b => b = b6) we wf := by rw [← hwf]; exact Turned.set we _ _ rfl
              have TF := Lib.hid ((T.out.turned T7 (fun b hb => by have := hlo b hb; have := HHH.out; omega)).turned TS (fun b hb => by have := HHH.out; omega))
              have BF := Lib.hid ((BZ.out.turned T7 (fun e => by have := hlo _ e; omega)).turned TS (fun e => by omega))
              have PF := Lib.hid P7
              have BD7 : Hid (∀ l ∈ acc ++ [es], ∀ e ∈ l, I64 e.1 ∧ I64 e.2) := fun l hl => by
                rcases List.mem_append.1 hl with h1 | h1
                · exact BD.out l h1
                · simp at h1
                  subst h1
                  exact BE.out
              have hMf : M ≤ wf.heap.size := Nat.le_trans hMr (Nat.le_trans T7.size TS.size)
              clear h7 g7 r7 ka T7 hlo bx7 P7 TS OWA HBASE HC T P BZ OW
              go_wp2_with fail
              go_roundw
              case rel => exact ⟨nh + 1, ⟨A2, nh + 1, c2⟩, _, _, oj, _, by omega, by go_num, rfl, TF.out, ML.out, PF.out, BD7.out, BF.out, hMf⟩
              case measure => simp [intOf]; omega
        · obtain rfl : nh = m := by omega
          obtain ⟨x0, x1, x2⟩ := p.bx.cells
          dsimp only at x1 x2
          have RB := Lib.hid b4
          have b4r := b4
          unfold ToBlk at b4r
          simp only [topoCells] at b4r
          have T9 := t.turned (turned_row wz (H + 1) #[.int .u64 (te : Int), .slice Au i cu, .slice Ah nh ch]) (fun b hb => by have := HHH.out; omega)
          have T9' := turned_row wz (H + 1) #[.int .u64 (te : Int), .slice Au i cu, .slice Ah nh ch]
          have PE := p.ends.2.2
          have OKH : (⟨Ah, nh, ch⟩ : SlV).ok := ⟨show nh ≤ 140737488351232 by omega, show nh ≤ ch from owns_le p.row⟩
          have FIN : Hid (TopoTold F N ge gr o w (.returned (.agg #[.int .u64 (te : Int), .slice Au i cu, .slice Ah nh ch])) (wz.setRow (H + 1) #[.int .u64 (te : Int), .slice Au i cu, .slice Ah nh ch])) := by
            refine ⟨te, ⟨Au, i, cu⟩, ⟨Ah, nh, ch⟩, up, acc, oi, rfl, fun G w'' kG hG => ?_, OKU.out, OKH, hte, hbd, T9.rd, T9.kp, Or.inl fun β Q => ?_⟩
            · exact PE (fun b => b = H + 1 ∨ G b) w'' ((Turned.mono T9' (F' := fun b => b = H + 1 ∨ G b) (fun i _ e => Or.inl e)).trans kG (fun b e => Or.inl (Or.inr e))) (fun b hb => by
                rcases hb with e | e
                · omega
                · have := hG b e; have := HHH.out; omega)
            · unfold topoQ
              rw [go_num, go_num, go_up, HNN.out, if_pos HALLT.out, go_num, HLL.out, HUP.out, HO3.out, HM3.out, HO4.out, HTE.out, ms.end_]
          clear t ms p hbd b4 T9 T9' PE
          go_wp2_with (refine wpList_store_rowTo rfl 50 (.tmp 4) (.tmp 58) rfl rfl (H + 1) #[.int .u64 (te : Int), .slice Au i cu, .slice Ah nh ch] rfl rfl 50 _ b4r infoTp rfl (by kernel_rfl) ?_)
          refine bodyPost_ret (results_cell_row (p := 4) (ty := 50) resTopo _ _ (H + 1) 50 _ (0, 0) _ rfl (setRow_heap _ _ _ _ _ _ RB.out) Tryz.underlying50 rfl infoTp) rfl ?_
          exact FIN.out
end Go.Proofs.YtifopodnceopjaaGreatDoor
