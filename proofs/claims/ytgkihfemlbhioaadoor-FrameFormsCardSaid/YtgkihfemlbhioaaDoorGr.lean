/- The landed frames: the closures that read. -/
import Derived.Test.YtgkihfemlbhioaaDoorObj
import Derived.Test.YtgkihfemlbhioaaDoorFwc
import Derived.Test.YtgkihfemlbhioaaDoorFrp
import Derived.Laws.EntriesVeiled
namespace Go.Proofs.YtgkihfemlbhioaaDoor
open Go.RowKit Fr
set_option linter.unusedVariables false
set_option linter.unusedSimpArgs false
/-- What is read, and what is left: nothing, if there was too little. -/
def nxtN (s : Nat) (o : Option (List Nat)) : Nat := match o with
  | some L => if s ≤ L.length then valN (L.take s) else 0
  | none => 0
def nxtB (n : Nat) (o : Option (List Nat)) : List Nat := match o with
  | some L => if n ≤ L.length then L.take n else []
  | none => []
def nxtO (s : Nat) (o : Option (List Nat)) : Option (List Nat) := match o with
  | some L => if s ≤ L.length then some (L.drop s) else none
  | none => none
def goO {α : Type} (o : Option (List Nat)) (p : Pa α) : Option (α × List Nat) := match o with
  | some L => p L
  | none => none
theorem go_num {α : Type} (s : Nat) (o : Option (List Nat)) (q : Nat → Pa α) : goO o ((numP s).bind q) = goO (nxtO s o) (q (nxtN s o)) := by
  cases o with
  | none => rfl
  | some L =>
    show (numP s).bind q L = goO (nxtO s (some L)) (q (nxtN s (some L)))
    unfold Pa.bind numP nxtO nxtN
    by_cases h : s ≤ L.length
    · simp only [if_pos h]; rfl
    · simp only [if_neg h]; rfl
theorem go_take {α : Type} (s : Nat) (o : Option (List Nat)) (q : List Nat → Pa α) : goO o ((takeP s).bind q) = goO (nxtO s o) (q (nxtB s o)) := by
  cases o with
  | none => rfl
  | some L =>
    show (takeP s).bind q L = goO (nxtO s (some L)) (q (nxtB s (some L)))
    unfold Pa.bind takeP nxtO nxtB
    by_cases h : s ≤ L.length
    · simp only [if_pos h]; rfl
    · simp only [if_neg h]; rfl
theorem nxtN_lt (s : Nat) (o : Option (List Nat)) (h : ∀ L, o = some L → AllB L) (hs : s ≤ 8) : nxtN s o < 256 ^ s := by
  unfold nxtN
  cases o with
  | none => exact Nat.pow_pos (by decide)
  | some L =>
    dsimp only
    split
    · have h1 := valN_lt (L.take s) ((h L rfl).take s)
      rw [List.length_take, Nat.min_eq_left (by assumption)] at h1
      exact h1
    · exact Nat.pow_pos (by decide)
theorem nxtB_all (n : Nat) (o : Option (List Nat)) (h : ∀ L, o = some L → AllB L) : AllB (nxtB n o) := by
  unfold nxtB
  cases o with
  | none => intro x hx; simp at hx
  | some L =>
    dsimp only
    split
    · exact (h L rfl).take n
    · intro x hx; simp at hx
theorem wread_same (F : Nat → Prop) (g : Nat) (L : List Nat) (s : Int) (w : World) (h : ReadR w F g L) :
    Calls Tryd.prog 66 #[.pointer (some ⟨g, 0, none⟩), .int .i64 s] w fun e w' => e = .returned (.tuple #[.int .u64 (readVal L s : Nat), .int .i64 (readErr L s)]) ∧ ReadR w' F g (readLeft L s) ∧ w.grownBy w' (some g) := by
  by_cases hs : s < 1 ∨ 8 < s
  · have e1 : readErr L s = 1 := by rw [readErr, if_pos hs]
    have e2 : readVal L s = 0 := by rw [readVal, e1]; rfl
    have e3 : readLeft L s = L := by rw [readLeft, e1]; rfl
    rw [e1, e2, e3]
    exact (wread_out F g L s hs w h).mono fun e w' hw => ⟨hw.1, hw.2 ▸ h, hw.2 ▸ World.grownBy.refl w _⟩
  · have e : s = (s.toNat : Int) := by omega
    by_cases hl : L.length < s.toNat
    · have e1 : readErr L s = 4 := by rw [readErr, if_neg hs, if_pos hl]
      have e2 : readVal L s = 0 := by rw [readVal, e1]; rfl
      have e3 : readLeft L s = L := by rw [readLeft, e1]; rfl
      rw [e1, e2, e3]
      have h2 := wread_short F g L s.toNat (by omega) (by omega) hl w h
      rw [← e] at h2
      exact h2.mono fun e w' hw => ⟨hw.1, hw.2.1, hw.2.2⟩
    · have e1 : readErr L s = 0 := by rw [readErr, if_neg hs, if_neg hl]
      have e2 : readVal L s = valN (L.take s.toNat) := by rw [readVal, e1]; rfl
      have e3 : readLeft L s = L.drop s.toNat := by rw [readLeft, e1]; rfl
      rw [e1, e2, e3]
      have h2 := wread_in F g L s.toNat (by omega) (by omega) (by omega) w h
      rw [← e] at h2
      exact h2.mono fun e w' hw => ⟨hw.1, hw.2.1, hw.2.2⟩
theorem wtake_same (F : Nat → Prop) (g : Nat) (L : List Nat) (s : Int) (w : World) (h : ReadR w F g L) :
    Calls Tryd.prog 68 #[.pointer (some ⟨g, 0, none⟩), .int .i64 s] w fun e w' => ∃ A n c, e = .returned (.tuple #[.slice A n c, .int .i64 (takeErr L s)]) ∧ Own w' w.heap.size 5 A n c (takeVal L s) ∧ ReadR w' F g (takeLeft L s) ∧ w.grownBy w' (some g) := by
  by_cases hs : s < 0
  · have e1 : takeErr L s = 1 := by rw [takeErr, if_pos hs]
    have e2 : takeVal L s = [] := by rw [takeVal, e1]; rfl
    have e3 : takeLeft L s = L := by rw [takeLeft, e1]; rfl
    rw [e1, e2, e3]
    exact (wtake_out F g L s hs w h).mono fun e w' hw => ⟨none, 0, 0, hw.1, Own.none_ _ _ _, hw.2 ▸ h, hw.2 ▸ World.grownBy.refl w _⟩
  · have e : s = (s.toNat : Int) := by omega
    by_cases hl : L.length < s.toNat
    · have e1 : takeErr L s = 4 := by rw [takeErr, if_neg hs, if_pos hl]
      have e2 : takeVal L s = [] := by rw [takeVal, e1]; rfl
      have e3 : takeLeft L s = L := by rw [takeLeft, e1]; rfl
      rw [e1, e2, e3]
      have h2 := wtake_short F g L s.toNat hl w h
      rw [← e] at h2
      exact h2.mono fun e w' hw => ⟨none, 0, 0, hw.1, Own.none_ _ _ _, hw.2.1, hw.2.2⟩
    · have e1 : takeErr L s = 0 := by rw [takeErr, if_neg hs, if_neg hl]
      have e2 : takeVal L s = L.take s.toNat := by rw [takeVal, e1]; rfl
      have e3 : takeLeft L s = L.drop s.toNat := by rw [takeLeft, e1]; rfl
      rw [e1, e2, e3]
      have h2 := wtake_in F g L s.toNat (by omega) (by have := h.bound; omega) w h
      rw [← e] at h2
      exact h2.mono fun e w' ⟨A, n, c, q1, q2, q3, q4⟩ => ⟨A, n, c, q1, q2, q3.1, q4⟩
/-- The reader that the closures share: its error in cell ge, itself in cell gr; F are its blocks, all below N. -/
def RdS (w : World) (F : Nat → Prop) (N ge gr : Nat) (o : Option (List Nat)) : Prop :=
  F ge ∧ (∀ b, F b → b < N) ∧ N ≤ w.heap.size ∧ ¬ F gr ∧ ∃ (g : Nat) (F1 : Nat → Prop) (L : List Nat) (e : Int), w.heap[ge]? = some (.cells #[.int .i64 e] 33 (0, 0)) ∧ w.cell? ⟨gr, 0, none⟩ = some (.pointer (some ⟨g, 0, none⟩)) ∧ ReadR w F1 g L ∧ (∀ b, F1 b → F b ∧ b ≠ ge) ∧
    (match o with | some L' => e = 0 ∧ L' = L | none => e ≠ 0)
theorem RdS.all {w : World} {F : Nat → Prop} {N ge gr : Nat} {o : Option (List Nat)} (h : RdS w F N ge gr o) : ∀ L, o = some L → AllB L := by
  intro L hL
  obtain ⟨_, _, _, _, g, F1, L', e, _, _, hr, _, hm⟩ := h
  rw [hL] at hm
  rw [hm.2]
  exact hr.all
theorem ReadR.turned {w w' : World} {F G : Nat → Prop} {g : Nat} {L : List Nat} (h : ReadR w F g L) (k : Turned G w w') (hn : ∀ b, F b → ¬ G b) : ReadR w' F g L := by
  obtain ⟨h1, h2, h3, A, c, h4, h5, h6⟩ := h
  have hb : ∀ b, F b → w'.heap[b]? = w.heap[b]? := fun b hb => k.block b (h2 b hb) (hn b hb)
  refine ⟨h1, fun b hb => Nat.lt_of_lt_of_le (h2 b hb) k.size, h3, A, c, by rw [hb g h1]; exact h4, h5, fun hp => ?_⟩
  obtain ⟨b, off, e, hf, hne, hc⟩ := h6 hp
  refine ⟨b, off, e, hf, hne, fun i hi => ?_⟩
  rw [← hc i hi]
  simp only [World.cell?, hb b hf]
theorem RdS.turned {w w' : World} {F G : Nat → Prop} {N ge gr : Nat} {o : Option (List Nat)} (h : RdS w F N ge gr o) (k : Turned G w w') (hn : ∀ b, F b → ¬ G b) (hg : ¬ G gr) : RdS w' F N ge gr o := by
  obtain ⟨h1, h2, h0, h3, g, F1, L, e, h4, h5, h6, h7, h8⟩ := h
  exact ⟨h1, h2, Nat.le_trans h0 k.size, h3, g, F1, L, e, (k.block ge (Nat.lt_of_lt_of_le (h2 ge h1) h0) (hn ge h1)).trans h4, k.cell h5 hg, h6.turned k (fun b hb => hn b (h7 b hb).1), h7, h8⟩
theorem RdS.keep {w w' : World} {F : Nat → Prop} {N ge gr : Nat} {o : Option (List Nat)} (h : RdS w F N ge gr o) (k : Keep w w') : RdS w' F N ge gr o :=
  h.turned (G := fun _ => False) (Turned.of_keep k) (fun _ _ e => e) (fun e => e)
/-- A value in an error's cell. -/
theorem RdS.put {F F1 : Nat → Prop} {w w2 : World} {N ge gr g : Nat} {e0 e : Int} {L2 : List Nat} (hF : ∀ b, F b → b < N) (hN : N ≤ w.heap.size) (hge : F ge) (hgr : ¬ F gr) (hge2 : w.heap[ge]? = some (.cells #[.int .i64 e0] 33 (0, 0))) (hc : w.cell? ⟨gr, 0, none⟩ = some (.pointer (some ⟨g, 0, none⟩)))
    (hg : F g) (hgne : g ≠ ge) (gr2 : w.grownBy w2 (some g)) (r2 : ReadR w2 F1 g L2) (h2 : ∀ b, F1 b → F b ∧ b ≠ ge) (o : Option (List Nat)) (ho : match o with | some L' => e = 0 ∧ L' = L2 | none => e ≠ 0) :
    w2.heap[ge]? = some (.cells #[.int .i64 e0] 33 (0, 0)) ∧ RdS (w2.setCell ⟨ge, 0, none⟩ (.int .i64 e)) F N ge gr o ∧ Turned F w (w2.setCell ⟨ge, 0, none⟩ (.int .i64 e)) := by
  have hgl := hF ge hge
  have hgrl : gr < w.heap.size := World.block_lt_of_cell? w _ hc
  have c2 : w2.heap[ge]? = some (.cells #[.int .i64 e0] 33 (0, 0)) := (gr2.block ge (by omega) (fun e => by injection e with e; exact hgne e.symm)).trans hge2
  have T : Turned F w w2 := Turned.of_grown gr2 (fun i hi => by injection hi with hi; rw [← hi]; exact hg)
  have T2 : Turned (fun b => b = ge) w2 (w2.setCell ⟨ge, 0, none⟩ (.int .i64 e)) := Turned.set w2 _ _ rfl
  have T3 : Turned F w (w2.setCell ⟨ge, 0, none⟩ (.int .i64 e)) := T.trans T2 (fun i hi => Or.inl (by rw [hi]; exact hge))
  have hne : ∀ b, F1 b → ¬ b = ge := fun b hb e => (h2 b hb).2 e
  exact ⟨c2, ⟨hge, hF, Nat.le_trans hN T3.size, hgr, g, F1, L2, e, one_setCell c2, T3.cell hc hgr, r2.turned T2 hne, h2, ho⟩, T3⟩
set_option maxRecDepth 100000 in
set_option maxHeartbeats 1000000 in
theorem rdnum_any (F : Nat → Prop) (N ge gr s : Nat) (o : Option (List Nat)) (w : World) (h : RdS w F N ge gr o) (s1 : 1 ≤ s) (s8 : s ≤ 8) :
    Calls Tryd.prog 65 #[.int .i64 (s : Int), .pointer (some ⟨ge, 0, none⟩), .pointer (some ⟨gr, 0, none⟩)] w fun e w' => e = .returned (.int .u64 (nxtN s o : Nat)) ∧ RdS w' F N ge gr (nxtO s o) ∧ Turned F w w' := by
  obtain ⟨h1, h2, h0, h3, g, F1, L, e0, h4, h5, h6, h7, h8⟩ := h
  have d1 := cell_of_one h4
  have d2 := free_of_one h4
  cases o with
  | none =>
    have e1 : (e0 == 0) = false := beq_eq_false_iff_ne.2 h8
    have R : Hid (RdS w F N ge gr (nxtO s none)) := ⟨h1, h2, h0, h3, g, F1, L, e0, h4, h5, h6, h7, h8⟩
    clear h1 h2 h0 h3 h4 h5 h6 h7 h8
    go_enter Tryd.func65, Tryd.ntmps65
    go_wp2_with fail
    go_ret
    exact ⟨rfl, R.out, Turned.refl _ _⟩
  | some L' =>
    obtain ⟨rfl, rfl⟩ := h8
    have hs : ¬ ((s : Int) < 1 ∨ 8 < (s : Int)) := by omega
    have HN := Lib.hid (wread_same F1 g L' (s : Int) w h6)
    have hg1 := (h7 g h6.at_)
    have P := Lib.hid (fun (w2 : World) (L2 : List Nat) (e : Int) (gr2 : w.grownBy w2 (some g)) (r2 : ReadR w2 F1 g L2) (o : Option (List Nat)) (ho : match o with | some L' => e = 0 ∧ L' = L2 | none => e ≠ 0) => RdS.put (gr := gr) h2 h0 h1 h3 h4 h5 hg1.1 hg1.2 gr2 r2 h7 o ho)
    clear h1 h2 h0 h3 h4 h6 h7
    go_enter Tryd.func65, Tryd.ntmps65
    go_wp2_with fail
    refine HN.out.mono ?_
    rintro e w2 ⟨rfl, r2, g2⟩
    have hh : ∃ (v : Nat) (er : Int), readVal L' (s : Int) = v ∧ readErr L' (s : Int) = er ∧ v = nxtN s (some L') ∧ (match nxtO s (some L') with | some M => er = 0 ∧ M = readLeft L' (s : Int) | none => er ≠ 0) := by
      refine ⟨_, _, rfl, rfl, ?_⟩
      unfold readVal readLeft readErr nxtN nxtO
      rw [if_neg hs, Int.toNat_natCast]
      dsimp only
      by_cases hl : s ≤ L'.length
      · have hl2 : ¬ L'.length < s := by omega
        simp only [if_pos hl, if_neg hl2]
        exact ⟨rfl, trivial, by simp⟩
      · have hl2 : L'.length < s := by omega
        simp only [if_neg hl, if_pos hl2]
        exact ⟨rfl, by decide⟩
    obtain ⟨v, er, q1, q2, q3, q4⟩ := hh
    rw [q1, q2]
    obtain ⟨c2, rn⟩ := P.out w2 _ er g2 r2 (nxtO s (some L')) q4
    have x1 := cell_of_one c2
    have x2 := free_of_one c2
    obtain ⟨w3, hw3⟩ : ∃ w3, w2.setCell ⟨ge, 0, none⟩ (.int .i64 er) = w3 := ⟨_, rfl⟩
    rw [hw3] at rn
    have R := Lib.hid rn
    have Q3 := Lib.hid q3
    clear r2 g2 c2 rn q1 q2 q3 q4 d1 d2
    go_wp2_with fail
    go_ret
    exact ⟨by rw [← Q3.out]; rfl, R.out⟩
end Go.Proofs.YtgkihfemlbhioaaDoor
/- The landed frames: the closures that read, further. -/
namespace Go.Proofs.YtgkihfemlbhioaaDoor
open Go.RowKit Fr
set_option linter.unusedVariables false
set_option linter.unusedSimpArgs false
set_option maxRecDepth 100000 in
set_option maxHeartbeats 1000000 in
theorem rdtake_any (F : Nat → Prop) (N ge gr n : Nat) (o : Option (List Nat)) (w : World) (h : RdS w F N ge gr o) :
    Calls Tryd.prog 67 #[.int .i64 (n : Int), .pointer (some ⟨ge, 0, none⟩), .pointer (some ⟨gr, 0, none⟩)] w fun e w' => ∃ A k c, e = .returned (.slice A k c) ∧ Own w' w.heap.size 5 A k c (nxtB n o) ∧ RdS w' F N ge gr (nxtO n o) ∧ Turned F w w' := by
  obtain ⟨h1, h2, h0, h3, g, F1, L, e0, h4, h5, h6, h7, h8⟩ := h
  have d1 := cell_of_one h4
  have d2 := free_of_one h4
  cases o with
  | none =>
    have e1 : (e0 == 0) = false := beq_eq_false_iff_ne.2 h8
    have R : Hid (RdS w F N ge gr (nxtO n none)) := ⟨h1, h2, h0, h3, g, F1, L, e0, h4, h5, h6, h7, h8⟩
    clear h1 h2 h0 h3 h4 h5 h6 h7 h8
    go_enter Tryd.func67, Tryd.ntmps67
    go_wp2_with fail
    go_ret
    exact ⟨none, 0, 0, rfl, Own.none_ _ _ _, R.out, Turned.refl _ _⟩
  | some L' =>
    obtain ⟨rfl, rfl⟩ := h8
    have hs : ¬ ((n : Int) < 0) := by omega
    have HN := Lib.hid (wtake_same F1 g L' (n : Int) w h6)
    have hg1 := (h7 g h6.at_)
    have HGE : Hid (ge < w.heap.size) := Nat.lt_of_lt_of_le (h2 ge h1) h0
    have P := Lib.hid (fun (w2 : World) (L2 : List Nat) (e : Int) (gr2 : w.grownBy w2 (some g)) (r2 : ReadR w2 F1 g L2) (o : Option (List Nat)) (ho : match o with | some L' => e = 0 ∧ L' = L2 | none => e ≠ 0) => RdS.put (gr := gr) h2 h0 h1 h3 h4 h5 hg1.1 hg1.2 gr2 r2 h7 o ho)
    clear h1 h2 h0 h3 h4 h6 h7
    go_enter Tryd.func67, Tryd.ntmps67
    go_wp2_with fail
    refine HN.out.mono ?_
    rintro e w2 ⟨A, k, c, rfl, o2, r2, g2⟩
    have hh : ∃ (v : List Nat) (er : Int), takeVal L' (n : Int) = v ∧ takeErr L' (n : Int) = er ∧ v = nxtB n (some L') ∧ (match nxtO n (some L') with | some M => er = 0 ∧ M = takeLeft L' (n : Int) | none => er ≠ 0) := by
      refine ⟨_, _, rfl, rfl, ?_⟩
      unfold takeVal takeLeft takeErr nxtB nxtO
      rw [if_neg (show ¬ ((n : Int) < 0) by omega), Int.toNat_natCast]
      dsimp only
      by_cases hl : n ≤ L'.length
      · have hl2 : ¬ L'.length < n := by omega
        simp only [if_pos hl, if_neg hl2]
        exact ⟨rfl, trivial, by simp⟩
      · have hl2 : L'.length < n := by omega
        simp only [if_neg hl, if_pos hl2]
        exact ⟨rfl, by decide⟩
    obtain ⟨v, er, q1, q2, q3, q4⟩ := hh
    rw [q1] at o2
    rw [q2]
    obtain ⟨c2, rs, rt⟩ := P.out w2 _ er g2 r2 (nxtO n (some L')) q4
    have x1 := cell_of_one c2
    have x2 := free_of_one c2
    have o3 : Own (w2.setCell ⟨ge, 0, none⟩ (.int .i64 er)) w.heap.size 5 A k c v := o2.far (fun e => by
      have h1 := o2.rowLe _ e
      have h2 := HGE.out
      have h1 : w.heap.size ≤ ge := h1
      omega) _
    obtain ⟨w3, hw3⟩ : ∃ w3, w2.setCell ⟨ge, 0, none⟩ (.int .i64 er) = w3 := ⟨_, rfl⟩
    rw [hw3] at rs rt o3
    have RS := Lib.hid rs
    have RT := Lib.hid rt
    have O3 := Lib.hid o3
    have Q3 := Lib.hid q3
    clear r2 g2 c2 rs rt q1 q2 q3 q4 d1 d2 o2 o3
    go_wp2_with fail
    go_ret
    exact ⟨A, k, c, rfl, by rw [← Q3.out]; exact O3.out, RS.out, RT.out⟩
/-- The end: whether nothing is left. -/
theorem rdend_any (F : Nat → Prop) (N ge gr : Nat) (o : Option (List Nat)) (w : World) (h : RdS w F N ge gr o) :
    Calls Tryd.prog 69 #[.pointer (some ⟨ge, 0, none⟩), .pointer (some ⟨gr, 0, none⟩)] w fun e w' => ∃ er : Int, e = .returned (.int .i64 er) ∧ (er = 0 ↔ o = some []) ∧ Turned F w w' := by
  obtain ⟨h1, h2, h0, h3, g, F1, L, e0, h4, h5, h6, h7, h8⟩ := h
  have d1 := cell_of_one h4
  have d2 := free_of_one h4
  cases o with
  | none =>
    have e1 : (e0 == 0) = false := beq_eq_false_iff_ne.2 h8
    have e2 : Hid (e0 ≠ 0) := h8
    clear h1 h2 h3 h4 h5 h6 h7 h8
    go_enter Tryd.func69, Tryd.ntmps69
    go_wp2_with fail
    go_ret
    exact ⟨e0, rfl, ⟨fun e => absurd e e2.out, fun e => by cases e⟩, Turned.refl _ _⟩
  | some L' =>
    obtain ⟨rfl, rfl⟩ := h8
    have HE := Lib.hid (wend_any F1 g L' w h6)
    obtain ⟨er, her⟩ : ∃ er, endErr L' = er := ⟨_, rfl⟩
    rw [her] at HE
    have HI : Hid (er = 0 ↔ some L' = some []) := by
      show er = 0 ↔ _
      rw [← her, endErr]
      split
      · rename_i e; rw [e]; simp
      · rename_i e; simp [e]
    have T : Hid (Turned F w (w.setCell ⟨ge, 0, none⟩ (.int .i64 er))) := Turned.set w _ _ h1
    have x1 := cell_of_one (one_setCell (u := .int .i64 er) h4)
    clear h1 h2 h3 h4 h6 h7 her
    go_enter Tryd.func69, Tryd.ntmps69
    go_wp2_with fail
    refine HE.out.mono ?_
    rintro e w2 ⟨rfl, rfl⟩
    go_wp2_with fail
    go_ret
    exact ⟨er, rfl, HI.out, T.out⟩
/-- The closures, as values. -/
def numF (ge gr : Nat) : Value := .func (.func 65) #[] #[.pointer (some ⟨ge, 0, none⟩), .pointer (some ⟨gr, 0, none⟩)]
def takF (ge gr : Nat) : Value := .func (.func 67) #[] #[.pointer (some ⟨ge, 0, none⟩), .pointer (some ⟨gr, 0, none⟩)]
def endF (ge gr : Nat) : Value := .func (.func 69) #[] #[.pointer (some ⟨ge, 0, none⟩), .pointer (some ⟨gr, 0, none⟩)]
theorem reading_any (B n c : Nat) (A : Option Addr) (xs : List Nat) (w : World) (h : Bytes w B A n xs) (hB : B ≤ w.heap.size) (hn : n ≤ 140737488355328) :
    Calls Tryd.prog 51 #[.slice A n c] w fun e w' => ∃ ge gr F, e = .returned (.tuple #[numF ge gr, takF ge gr, endF ge gr]) ∧ RdS w' F w'.heap.size ge gr (some xs) ∧ (∀ b, F b → w.heap.size ≤ b) ∧ w.heap.size ≤ gr ∧ gr < w'.heap.size ∧ Keep w w' := by
  have HN := Lib.hid (wnew_any B n c A xs w h hB hn)
  clear h
  go_enter Tryd.func51, Tryd.ntmps51
  go_wp2_with fail
  refine HN.out.mono ?_
  rintro e w1 ⟨g, F1, rfl, r1, f1, k1⟩
  have R1 := Lib.hid r1
  have F1' := Lib.hid f1
  have K1 := Lib.hid k1
  clear r1 f1 k1
  go_wp2_with fail
  go_ret3
  have e1 : ((w1.alloc (.cells #[.pointer (some ⟨g, 0, none⟩)] 102)).alloc (.cells #[.int .i64 0] 33)).heap[w1.heap.size + 1]? = some (.cells #[.int .i64 0] 33 (0, 0)) := by
    have := heap_alloc_new (w1.alloc (.cells #[.pointer (some ⟨g, 0, none⟩)] 102)) (.cells #[.int .i64 0] 33)
    simpa using this
  have e2 : ((w1.alloc (.cells #[.pointer (some ⟨g, 0, none⟩)] 102)).alloc (.cells #[.int .i64 0] 33)).heap[w1.heap.size]? = some (.cells #[.pointer (some ⟨g, 0, none⟩)] 102 (0, 0)) :=
    (((Keep.refl (w1.alloc (.cells #[.pointer (some ⟨g, 0, none⟩)] 102))).alloc _ _).block _ (by simp)).trans (heap_alloc_new w1 _)
  have k : Keep w1 ((w1.alloc (.cells #[.pointer (some ⟨g, 0, none⟩)] 102)).alloc (.cells #[.int .i64 0] 33)) := ((Keep.refl w1).alloc _ _).alloc _ _
  refine ⟨w1.heap.size + 1, w1.heap.size, fun b => b = w1.heap.size + 1 ∨ F1 b, rfl, ⟨Or.inl rfl, ?_, Nat.le_refl _, ?_, g, F1, xs, 0, e1, cell_of_one e2, R1.out.keep k, ?_, rfl, rfl⟩, ?_, K1.out.size, by simp; omega, K1.out.trans k⟩
  · rintro b (rfl | hb)
    · simp
    · have := R1.out.lt hb
      simp; omega
  · rintro (e | e)
    · omega
    · have := R1.out.lt e; omega
  · intro b hb
    refine ⟨Or.inr hb, fun e => ?_⟩
    have := R1.out.lt hb; omega
  · rintro b (rfl | hb)
    · have := K1.out.size; omega
    · exact F1'.out b hb
end Go.Proofs.YtgkihfemlbhioaaDoor
/- The landed frames: one byte's number, by the closures; the state of a walk that reads. -/
namespace Go.Proofs.YtgkihfemlbhioaaDoor
open Go.RowKit Fr
set_option linter.unusedVariables false
set_option linter.unusedSimpArgs false
theorem nxt1_lt {w : World} {F : Nat → Prop} {N ge gr : Nat} {o : Option (List Nat)} (h : RdS w F N ge gr o) : nxtN 1 o < 256 := nxtN_lt 1 o h.all (by decide)
theorem nxt8_lt {w : World} {F : Nat → Prop} {N ge gr : Nat} {o : Option (List Nat)} (h : RdS w F N ge gr o) : nxtN 8 o < 18446744073709551616 := nxtN_lt 8 o h.all (by decide)
theorem nxt2_lt {w : World} {F : Nat → Prop} {N ge gr : Nat} {o : Option (List Nat)} (h : RdS w F N ge gr o) : nxtN 2 o < 65536 := nxtN_lt 2 o h.all (by decide)
set_option maxRecDepth 100000 in
theorem rone_any (F : Nat → Prop) (N ge gr hn : Nat) (o : Option (List Nat)) (w : World) (h : RdS w F N ge gr o) (hc : w.cell? ⟨hn, 0, none⟩ = some (numF ge gr)) :
    Calls Tryd.prog 52 #[.pointer (some ⟨hn, 0, none⟩)] w fun e w' => e = .returned (.int .i64 (nxtN 1 o : Nat)) ∧ RdS w' F N ge gr (nxtO 1 o) ∧ Turned F w w' := by
  have HN : Hid (Calls Tryd.prog 65 #[.int .i64 1, .pointer (some ⟨ge, 0, none⟩), .pointer (some ⟨gr, 0, none⟩)] w fun e w' => e = .returned (.int .u64 (nxtN 1 o : Nat)) ∧ RdS w' F N ge gr (nxtO 1 o) ∧ Turned F w w') :=
    rdnum_any F N ge gr 1 o w h (by omega) (by omega)
  have hb := nxt1_lt h
  obtain ⟨x, hx⟩ : ∃ x, nxtN 1 o = x := ⟨_, rfl⟩
  rw [hx] at HN hb ⊢
  have e1 : IntKind.i64.wrap (x : Int) = (x : Int) := IntWalk.i64_in _ (by omega)
  unfold numF at hc
  clear h hx
  go_enter Tryd.func52, Tryd.ntmps52
  go_wp2_with fail
  refine HN.out.mono ?_
  rintro e w2 ⟨rfl, r2⟩
  go_wp2_with fail
  go_ret
  exact ⟨rfl, r2⟩
set_option maxRecDepth 100000 in
theorem rtone_any (F : Nat → Prop) (N ge gr hn : Nat) (o : Option (List Nat)) (w : World) (h : RdS w F N ge gr o) (hc : w.cell? ⟨hn, 0, none⟩ = some (numF ge gr)) :
    Calls Tryd.prog 71 #[.pointer (some ⟨hn, 0, none⟩)] w fun e w' => e = .returned (.int .i64 (nxtN 1 o : Nat)) ∧ RdS w' F N ge gr (nxtO 1 o) ∧ Turned F w w' := by
  have HN : Hid (Calls Tryd.prog 65 #[.int .i64 1, .pointer (some ⟨ge, 0, none⟩), .pointer (some ⟨gr, 0, none⟩)] w fun e w' => e = .returned (.int .u64 (nxtN 1 o : Nat)) ∧ RdS w' F N ge gr (nxtO 1 o) ∧ Turned F w w') :=
    rdnum_any F N ge gr 1 o w h (by omega) (by omega)
  have hb := nxt1_lt h
  obtain ⟨x, hx⟩ : ∃ x, nxtN 1 o = x := ⟨_, rfl⟩
  rw [hx] at HN hb ⊢
  have e1 : IntKind.i64.wrap (x : Int) = (x : Int) := IntWalk.i64_in _ (by omega)
  unfold numF at hc
  clear h hx
  go_enter Tryd.func71, Tryd.ntmps71
  go_wp2_with fail
  refine HN.out.mono ?_
  rintro e w2 ⟨rfl, r2⟩
  go_wp2_with fail
  go_ret
  exact ⟨rfl, r2⟩
/-- A walk that reads: the reader (of the blocks F, all below N), the cell that holds the closure of numbers; everything else that it laid is new since W. -/
structure RfT (W : World) (F : Nat → Prop) (N ge gr hn : Nat) (w : World) (o : Option (List Nat)) : Prop where
  rd : RdS w F N ge gr o
  cl : w.cell? ⟨hn, 0, none⟩ = some (numF ge gr)
  nh : N ≤ hn
  ng : gr < N
  kp : Turned F W w
theorem RfT.next {W w w' : World} {N ge gr hn : Nat} {F : Nat → Prop} {o o' : Option (List Nat)} (t : RfT W F N ge gr hn w o) (n : RdS w' F N ge gr o' ∧ Turned F w w') : RfT W F N ge gr hn w' o' :=
  ⟨n.1, n.2.cell t.cl (fun e => by have h1 : hn < N := n.1.2.1 _ e; have := t.nh; omega), t.nh, t.ng, t.kp.trans n.2 (fun i hi => Or.inl hi)⟩
/-- What else was written: blocks from N on. -/
theorem RfT.turned {W w w' : World} {N ge gr hn : Nat} {F G : Nat → Prop} {o : Option (List Nat)} (t : RfT W F N ge gr hn w o) (k : Turned G w w') (hG : ∀ b, G b → N ≤ b ∧ b ≠ hn ∧ W.heap.size ≤ b) : RfT W F N ge gr hn w' o :=
  ⟨t.rd.turned k (fun b hb e => by have := t.rd.2.1 b hb; have := (hG b e).1; omega) (fun e => by have := (hG _ e).1; have := t.ng; omega), k.cell t.cl (fun e => (hG _ e).2.1 rfl), t.nh, t.ng, t.kp.trans k (fun i hi => Or.inr (hG i hi).2.2)⟩
theorem RfT.keep {W w w' : World} {N ge gr hn : Nat} {F : Nat → Prop} {o : Option (List Nat)} (t : RfT W F N ge gr hn w o) (k : Keep w w') : RfT W F N ge gr hn w' o :=
  t.turned (G := fun _ => False) (Turned.of_keep k) (fun _ e => e.elim)
theorem RfT.size {W w : World} {N ge gr hn : Nat} {F : Nat → Prop} {o : Option (List Nat)} (t : RfT W F N ge gr hn w o) : N ≤ w.heap.size := t.rd.2.2.1
theorem RfT.one {W w : World} {N ge gr hn : Nat} {F : Nat → Prop} {o : Option (List Nat)} (t : RfT W F N ge gr hn w o) :
    Calls Tryd.prog 52 #[.pointer (some ⟨hn, 0, none⟩)] w fun e w' => e = .returned (.int .i64 (nxtN 1 o : Nat)) ∧ RdS w' F N ge gr (nxtO 1 o) ∧ Turned F w w' := rone_any F N ge gr hn o w t.rd t.cl
theorem RfT.tone {W w : World} {N ge gr hn : Nat} {F : Nat → Prop} {o : Option (List Nat)} (t : RfT W F N ge gr hn w o) :
    Calls Tryd.prog 71 #[.pointer (some ⟨hn, 0, none⟩)] w fun e w' => e = .returned (.int .i64 (nxtN 1 o : Nat)) ∧ RdS w' F N ge gr (nxtO 1 o) ∧ Turned F w w' := rtone_any F N ge gr hn o w t.rd t.cl
theorem RfT.eight {W w : World} {N ge gr hn : Nat} {F : Nat → Prop} {o : Option (List Nat)} (t : RfT W F N ge gr hn w o) :
    Calls Tryd.prog 65 #[.int .i64 8, .pointer (some ⟨ge, 0, none⟩), .pointer (some ⟨gr, 0, none⟩)] w fun e w' => e = .returned (.int .u64 (nxtN 8 o : Nat)) ∧ RdS w' F N ge gr (nxtO 8 o) ∧ Turned F w w' :=
  rdnum_any F N ge gr 8 o w t.rd (by omega) (by omega)
theorem RfT.two {W w : World} {N ge gr hn : Nat} {F : Nat → Prop} {o : Option (List Nat)} (t : RfT W F N ge gr hn w o) :
    Calls Tryd.prog 65 #[.int .i64 2, .pointer (some ⟨ge, 0, none⟩), .pointer (some ⟨gr, 0, none⟩)] w fun e w' => e = .returned (.int .u64 (nxtN 2 o : Nat)) ∧ RdS w' F N ge gr (nxtO 2 o) ∧ Turned F w w' :=
  rdnum_any F N ge gr 2 o w t.rd (by omega) (by omega)
/-- Readers, one behind the other. -/
theorem bind_assoc {α β γ : Type} (p : Pa α) (q : α → Pa β) (r : β → Pa γ) : (p.bind q).bind r = p.bind fun a => (q a).bind r := by
  funext l
  unfold Pa.bind
  cases p l <;> rfl
theorem ret_bind {α β : Type} (a : α) (q : α → Pa β) : (Pa.ret a).bind q = q a := rfl
theorem bind_ret {α : Type} (p : Pa α) : p.bind Pa.ret = p := by
  funext l
  unfold Pa.bind
  cases p l <;> rfl
/-- A topology, read. -/
def topoQ {β : Type} (Q : Nat → List Bool → List (List (Int × Int)) → Pa β) : Pa β := (numP 8).bind fun te => (numP 1).bind fun n => (upP n).bind fun up => (numP 1).bind fun m => (manyP hopP m).bind fun hops => Q te up hops
theorem topo_q (s d ep life : Nat) : topoP s d ep life = topoQ fun te up hops => Pa.ret ⟨5, s, d, ep, life, 0, 0, 0, 0, [], [], [], te, up, hops⟩ := rfl
/-- The marks: a byte that is none ends it. -/
theorem go_up {β : Type} (o : Option (List Nat)) (n : Nat) (Q : List Bool → Pa β) : goO o ((upP n).bind Q) = if (nxtB n o).all (· ≤ 1) = true then goO (nxtO n o) (Q ((nxtB n o).map (· == 1))) else none := by
  rw [upP, bind_assoc, go_take]
  cases h : nxtO n o with
  | none => show none = _; split <;> rfl
  | some L =>
    show (upQ (nxtB n o)).bind Q L = _
    unfold Pa.bind upQ
    by_cases hb : (nxtB n o).all (· ≤ 1) = true
    · rw [if_pos hb, if_pos hb]; rfl
    · rw [if_neg hb, if_neg hb]
theorem go_many_zero {α β : Type} (o : Option (List Nat)) (p : Pa α) (Q : List α → Pa β) : goO o ((manyP p 0).bind Q) = goO o (Q []) := rfl
theorem go_many_succ {α β : Type} (o : Option (List Nat)) (p : Pa α) (k : Nat) (Q : List α → Pa β) : goO o ((manyP p (k + 1)).bind Q) = goO o (p.bind fun a => (manyP p k).bind fun l => Q (a :: l)) := by
  rw [manyP, bind_assoc]
  congr 1
  congr 1
  funext a
  rw [bind_assoc]
  rfl
theorem go_rank {β : Type} (o : Option (List Nat)) (Q : Nat × Int → Pa β) : goO o (rankP.bind Q) = goO (nxtO 1 (nxtO 8 o)) (Q (nxtN 8 o, (nxtN 1 (nxtO 8 o) : Nat))) := by
  rw [rankP, bind_assoc, go_num, bind_assoc, go_num]
  rfl
theorem go_edge {β : Type} (o : Option (List Nat)) (Q : Int × Int → Pa β) : goO o (edgeP.bind Q) = goO (nxtO 1 (nxtO 1 o)) (Q ((nxtN 1 o : Nat), (nxtN 1 (nxtO 1 o) : Nat))) := by
  rw [edgeP, bind_assoc, go_num, bind_assoc, go_num]
  rfl
theorem go_hop {β : Type} (o : Option (List Nat)) (Q : List (Int × Int) → Pa β) : goO o (hopP.bind Q) = goO (nxtO 1 o) ((manyP edgeP (nxtN 1 o)).bind Q) := by
  rw [hopP, bind_assoc, go_num]
end Go.Proofs.YtgkihfemlbhioaaDoor
