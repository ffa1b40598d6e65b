/- The walk of WireReads. -/
import Derived.Test.YtpmildbgmmiaeaaAwake
import Derived.Test.YtpmildbgmmiaeaaMine
import Derived.Test.YtpmildbgmmiaeaaStructs
namespace Go.Proofs.Ytpmildbgmmiaeaa
open Go.RowKit
theorem RefR.other {w w' : World} {base g n c : Nat} {A : Option Addr} {L : List Nat} {row : Option Nat} (h : RefR w base g A n c L) (k : w.grownBy w' row) (h1 : row ≠ some g) (h2 : ∀ b, (Value.slice A n c).ownBlock = some b → row ≠ some b) : RefR w' base g A n c L :=
  ⟨by rw [k.block g (lt_of_block h.cell) (fun e => h1 e.symm)]; exact h.cell, h.new, ⟨h.own.1.kept k (by
    cases hb : (Value.slice A n c).ownBlock with
    | none => exact Or.inl rfl
    | some b => exact Or.inr fun e => h2 b hb (by rw [← e])), h.own.2⟩⟩
theorem RefR.keep {w w' : World} {base g n c : Nat} {A : Option Addr} {L : List Nat} (h : RefR w base g A n c L) (k : Keep w w') : RefR w' base g A n c L :=
  h.other (row := none) ⟨k.os, k.tape, k.output, k.size, fun i hi _ => k.block i hi⟩ (by simp) (fun b _ => by simp)
theorem set_grown (w : World) (p : Addr) (v : Value) : w.grownBy (w.setCell p v) (some p.block) :=
  ⟨rfl, rfl, rfl, by simp [World.setCell], fun i _ hi => Below.heap_setCell w p v i (fun e => hi (by rw [e]))⟩
theorem rread_all (base g n c : Nat) (A : Option Addr) (L : List Nat) (s : Int) (w : World) (hr : RefR w base g A n c L) (hn : n ≤ 140737488355328) (hbase : base ≤ w.heap.size) :
    Calls Try.prog 16 #[.pointer (some ⟨g, 0, none⟩), .int .i64 s] w fun e w' => e = .returned (.tuple #[.int .u64 (readVal L s : Nat), .int .i64 (readErr L s)]) ∧ w.grownBy w' (some g) ∧
      ∃ A' n' c', RefR w' base g A' n' c' (readLeft L s) ∧ n' ≤ n ∧ ∀ b, (Value.slice A' n' c').ownBlock = some b → (Value.slice A n c).ownBlock = some b ∨ w.heap.size ≤ b := by
  have hl := hr.own.length
  have same : ∀ {e : Ending} {w' : World} {x : Int}, readErr L s = x → x ≠ 0 → e = .returned (.tuple #[.int .u64 0, .int .i64 x]) ∧ w = w' → e = .returned (.tuple #[.int .u64 (readVal L s : Nat), .int .i64 (readErr L s)]) ∧ w.grownBy w' (some g) ∧
      ∃ A' n' c', RefR w' base g A' n' c' (readLeft L s) ∧ n' ≤ n ∧ ∀ b, (Value.slice A' n' c').ownBlock = some b → (Value.slice A n c).ownBlock = some b ∨ w.heap.size ≤ b := by
    rintro e w' x hx h0 ⟨rfl, rfl⟩
    rw [readVal, readLeft, hx, if_neg h0, if_neg h0]
    exact ⟨rfl, World.grownBy.refl _ _, A, n, c, hr, Nat.le_refl _, fun b hb => Or.inl hb⟩
  by_cases h1 : s < 1 ∨ 8 < s
  · exact (rread_out base g n c A L s h1 w hr).mono fun e w' he => same (by rw [readErr, if_pos h1]) (by decide) he
  · obtain ⟨t, rfl⟩ := Int.eq_ofNat_of_zero_le (show 0 ≤ s by omega)
    by_cases h2 : n < t
    · exact (rread_short base g n c t A L (by omega) (by omega) h2 w hr).mono fun e w' he => same (by rw [readErr, if_neg h1, if_pos (by simp; omega)]) (by decide) he
    · have hx : readErr L (t : Int) = 0 := by rw [readErr, if_neg h1, if_neg (by simp; omega)]
      refine (rread_in base g n c t A L (by omega) (by omega) (by omega) hn w hr hbase).mono ?_
      rintro e w' ⟨rfl, k, A', c', r, f⟩
      rw [readVal, readLeft, hx, if_pos rfl, if_pos rfl]
      exact ⟨rfl, k, A', n - t, c', r, by omega, fun b hb => Or.inr (f b hb)⟩
theorem rtake_all (base g n c : Nat) (A : Option Addr) (L : List Nat) (s : Int) (w : World) (hr : RefR w base g A n c L) (hn : n ≤ 140737488355328) (hbase : base ≤ w.heap.size) :
    Calls Try.prog 18 #[.pointer (some ⟨g, 0, none⟩), .int .i64 s] w fun e w' => ∃ A1 n1 c1, e = .returned (.tuple #[.slice A1 n1 c1, .int .i64 (takeErr L s)]) ∧ Own w' w.heap.size 5 A1 n1 c1 (takeVal L s) ∧ w.grownBy w' (some g) ∧
      ∃ A' n' c', RefR w' base g A' n' c' (takeLeft L s) ∧ n' ≤ n ∧ ∀ b, (Value.slice A' n' c').ownBlock = some b → (Value.slice A n c).ownBlock = some b ∨ w.heap.size ≤ b := by
  have hl := hr.own.length
  have same : ∀ {e : Ending} {w' : World} {x : Int}, takeErr L s = x → x ≠ 0 → e = .returned (.tuple #[.slice none 0 0, .int .i64 x]) ∧ w = w' → ∃ A1 n1 c1, e = .returned (.tuple #[.slice A1 n1 c1, .int .i64 (takeErr L s)]) ∧ Own w' w.heap.size 5 A1 n1 c1 (takeVal L s) ∧ w.grownBy w' (some g) ∧
      ∃ A' n' c', RefR w' base g A' n' c' (takeLeft L s) ∧ n' ≤ n ∧ ∀ b, (Value.slice A' n' c').ownBlock = some b → (Value.slice A n c).ownBlock = some b ∨ w.heap.size ≤ b := by
    rintro e w' x hx h0 ⟨rfl, rfl⟩
    rw [takeVal, takeLeft, hx, if_neg h0, if_neg h0]
    exact ⟨none, 0, 0, rfl, Own.none_ _ _ _, World.grownBy.refl _ _, A, n, c, hr, Nat.le_refl _, fun b hb => Or.inl hb⟩
  by_cases h1 : s < 0
  · exact (rtake_out base g n c A L s h1 w hr).mono fun e w' he => same (by rw [takeErr, if_pos h1]) (by decide) he
  · obtain ⟨t, rfl⟩ := Int.eq_ofNat_of_zero_le (show 0 ≤ s by omega)
    by_cases h2 : n < t
    · exact (rtake_short base g n c t A L h2 w hr).mono fun e w' he => same (by rw [takeErr, if_neg h1, if_pos (by simp; omega)]) (by decide) he
    · have hx : takeErr L (t : Int) = 0 := by rw [takeErr, if_neg h1, if_neg (by simp; omega)]
      refine (rtake_in base g n c t A L (by omega) hn w hr hbase).mono ?_
      rintro e w' ⟨A1, c1, rfl, o, k, A', c', r, f⟩
      rw [takeVal, takeLeft, hx, if_pos rfl, if_pos rfl, Int.toNat_natCast]
      exact ⟨A1, t, c1, rfl, o, k, A', n - t, c', r, by omega, fun b hb => Or.inr (f b hb)⟩
/-- The two readers, side by side. -/
structure Both (w wr : World) (F : Nat → Prop) (g base gq : Nat) (A : Option Addr) (n c : Nat) (L : List Nat) : Prop where
  r : ReadR wr F g L
  q : RefR wr base gq A n c L
  apart : ¬ F gq ∧ ∀ b, (Value.slice A n c).ownBlock = some b → ¬ F b
  low : w.heap.size ≤ g ∧ w.heap.size ≤ base
  keep : Keep w wr
theorem Both.lt {w wr : World} {F : Nat → Prop} {g base gq n c b : Nat} {A : Option Addr} {L : List Nat} (h : Both w wr F g base gq A n c L) (hb : (Value.slice A n c).ownBlock = some b) : b < wr.heap.size := (h.q.own.1.lt b hb).2
theorem Both.base_le {w wr : World} {F : Nat → Prop} {g base gq n c : Nat} {A : Option Addr} {L : List Nat} (h : Both w wr F g base gq A n c L) : base ≤ wr.heap.size := Nat.le_trans h.q.new (Nat.le_of_lt (lt_of_block h.q.cell))
/-- Something else turned. -/
theorem Both.other {w wr w' : World} {F : Nat → Prop} {g base gq n c : Nat} {A : Option Addr} {L : List Nat} {row : Option Nat} (h : Both w wr F g base gq A n c L) (k : wr.grownBy w' row) (h1 : ∀ b, row = some b → ¬ F b ∧ b ≠ gq ∧ (Value.slice A n c).ownBlock ≠ some b ∧ w.heap.size ≤ b) : Both w w' F g base gq A n c L :=
  ⟨h.r.grown k fun b hb => (h1 b hb).1, h.q.other k (fun e => (h1 gq e).2.1 rfl) (fun b hb e => (h1 b e).2.2.1 hb), h.apart, h.low, Keep.grown h.keep k fun b hb => (h1 b hb).2.2.2⟩
theorem Both.later {w wr w' : World} {F : Nat → Prop} {g base gq n c : Nat} {A : Option Addr} {L : List Nat} (h : Both w wr F g base gq A n c L) (k : Keep wr w') : Both w w' F g base gq A n c L :=
  h.other (row := none) ⟨k.os, k.tape, k.output, k.size, fun i hi _ => k.block i hi⟩ (fun b e => by cases e)
/-- Both have read. -/
theorem Both.step {w wa w6 w7 : World} {F F' : Nat → Prop} {g base gq n c n' c' : Nat} {A A' : Option Addr} {L L' : List Nat} (h : Both w wa F g base gq A n c L) (r' : ReadR w6 F' g L') (f' : ∀ b, F' b → F b ∨ wa.heap.size ≤ b) (k' : wa.grownBy w6 (some g))
    (q' : RefR w7 base gq A' n' c' L') (k2 : w6.grownBy w7 (some gq)) (f2 : ∀ b, (Value.slice A' n' c').ownBlock = some b → (Value.slice A n c).ownBlock = some b ∨ w6.heap.size ≤ b) : Both w w7 F' g base gq A' n' c' L' := by
  have hgq := lt_of_block h.q.cell
  have n1 : ¬ F' gq := fun e => by
    rcases f' gq e with e | e
    · exact h.apart.1 e
    · omega
  refine ⟨r'.grown k2 (fun b e => by injection e with e; subst e; exact n1), q', ⟨n1, fun b hb e => ?_⟩, h.low, ?_⟩
  · rcases f2 b hb with h3 | h3
    · rcases f' b e with e | e
      · exact h.apart.2 b h3 e
      · have := h.lt h3; omega
    · have := r'.lt e; omega
  · refine Keep.grown (Keep.grown h.keep k' fun b e => ?_) k2 fun b e => ?_
    · injection e with e; subst e; exact h.low.1
    · injection e with e; subst e; exact Nat.le_trans h.low.2 h.q.new
theorem Both.q6 {w wa w6 : World} {F : Nat → Prop} {g base gq n c : Nat} {A : Option Addr} {L : List Nat} (h : Both w wa F g base gq A n c L) (k' : wa.grownBy w6 (some g)) : RefR w6 base gq A n c L :=
  h.q.other k' (fun e => by injection e with e; exact h.apart.1 (e ▸ h.r.at_)) (fun b hb e => by injection e with e; exact h.apart.2 b hb (e ▸ h.r.at_))
theorem end_bools (L : List Nat) (n : Nat) (h : L.length = n) : ∃ b, (endErr L == 0) = b ∧ ((n : Int) == 0) = b := by
  cases L with
  | nil => exact ⟨true, rfl, by simp at h; subst h; rfl⟩
  | cons x t => exact ⟨false, rfl, beq_eq_false_iff_ne.2 (by simp at h; omega)⟩
/-- A slice of one's own, told with the memory that stays. -/
theorem Mine.grown {w wr w' : World} {A : Option Addr} {n c : Nat} {row : Option Nat} (h : Mine w wr A n c) (k : wr.grownBy w' row) (hn : (Value.slice A n c).ownBlock = none ∨ (Value.slice A n c).ownBlock ≠ row) : Mine w w' A n c := by
  obtain ⟨xs, h⟩ := h; exact ⟨xs, ⟨h.1.kept k hn, h.2⟩⟩
set_option maxRecDepth 100000 in
set_option linter.unusedVariables false in
set_option maxHeartbeats 8000000 in
theorem reads_any (n ca m cb : Nat) (A1 A2 : Option Addr) (xs : List Nat) (l : List (List Value)) (w : World) (h1 : Bytes w w.heap.size A1 n xs) (h2 : FieldsAt w w.heap.size A2 m 2 l)
    (hi : ∀ r ∈ l, ∃ a b : Int, r = [.int .i64 a, .int .i64 b]) (m1 : n ≤ 140737488351232) (m2 : m ≤ 140737488351232) :
    Calls Try.prog 4 #[.slice A1 n ca, .slice A2 m cb] w fun e w' => e = .returned (.bool true) ∧ Keep w w' := by
  have B1 := Lib.hid h1
  have H2 := Lib.hid h2
  have HI := Lib.hid hi
  clear h1 h2 hi
  go_enter Try.func4, Try.ntmps4
  go_wp2_with fail
  refine (awake_any _).mono ?_
  rintro e w1 ⟨rfl, s1⟩
  have K1 := Lib.hid s1
  clear s1
  go_wp2_with fail
  refine (rown_any _ n _ _ _ _ (B1.out.keep (Nat.le_refl _) K1.out) (by omega)).mono ?_
  rintro e w2 ⟨P2, n2, c2, rfl, o2, s2⟩
  obtain rfl : n = n2 := (o2.length.symm.trans B1.out.length).symm
  have O2 := Lib.hid o2
  have K2 := Lib.hid (Keep.trans K1.out s2)
  clear o2 s2
  go_wp2_with fail
  refine (wnew_any _ n c2 _ xs _ O2.out.bytes (Nat.le_refl _) (by omega)).mono ?_
  rintro e w3 ⟨g, F, rfl, r3, f3, s3⟩
  have R3 := Lib.hid r3
  have F3 := Lib.hid f3
  have S3 := Lib.hid s3
  have K3 := Lib.hid (Keep.trans K2.out s3)
  clear r3 f3 s3
  go_wp2_with fail
  refine (rown_any _ n _ _ _ _ (B1.out.keep (Nat.le_refl _) K3.out) (by omega)).mono ?_
  rintro e w4 ⟨P4, n4, c4, rfl, o4, s4⟩
  obtain rfl : n = n4 := (o4.length.symm.trans B1.out.length).symm
  have O4 := Lib.hid o4
  have S4 := Lib.hid s4
  have K4 := Lib.hid (Keep.trans K3.out s4)
  clear o4 s4
  go_wp2_with fail
  obtain ⟨gq, hgq⟩ : ∃ q, w4.heap.size = q := ⟨_, rfl⟩
  obtain ⟨base, hbase⟩ : ∃ b, w3.heap.size = b := ⟨_, rfl⟩
  have hB0 : Both w (w4.alloc (.cells #[.slice P4 n c4] 38)) F g base gq P4 n c4 xs := by
    have z1 := K2.out.size
    have z2 := S3.out.size
    have z3 := S4.out.size
    refine ⟨(R3.out.keep S4.out).keep ((Keep.refl w4).alloc _ _), ⟨by rw [← hgq]; exact heap_alloc_new w4 _, by omega, by rw [← hbase]; exact O4.out.alloc _⟩, ⟨fun e => ?_, fun b hb e => ?_⟩, ⟨Nat.le_trans z1 (F3.out g R3.out.at_), by omega⟩, K4.out.alloc _ _⟩
    · have := R3.out.lt e; omega
    · have h5 := O4.out.rowLe b hb
      have := R3.out.lt e; omega
  have hP : ∀ b, (Value.slice P2 n c2).ownBlock = some b → b < w2.heap.size ∧ w1.heap.size ≤ b := fun b hb => ⟨(O2.out.1.lt b hb).2, O2.out.rowLe b hb⟩
  have HP := Lib.hid hP
  have HB0 := Lib.hid hB0
  have M0 : Hid (Mine w1 (w4.alloc (.cells #[.slice P4 n c4] 38)) P2 n c2) := ⟨xs, (O2.out.keep (Keep.trans S3.out S4.out)).alloc _⟩
  have HZ := Lib.hid (And.intro K1.out.size (And.intro S3.out.size S4.out.size))
  have HG := Lib.hid (And.intro hgq hbase)
  rw [hgq]
  clear hB0 hP hgq hbase
  go_loopw [32] (fun i wr => ∃ r : Nat, r ≤ n ∧ i = .int .i64 r ∧ Mine w1 wr P2 n c2 ∧ Both w wr F g base gq P4 n c4 xs) (fun i _ => n - (intOf i).toNat)
  case atStart => exact ⟨0, by omega, rfl, M0.out, HB0.out⟩
  case round =>
    clear M0 HB0
    obtain ⟨r, hr, rfl, h3, hb⟩ := hrel
    by_cases hlt : r < n
    · obtain ⟨g2, q, rfl, hg, hq, hc, hf⟩ := h3.at_ hlt
      obtain ⟨u, hu⟩ : ∃ u, q ^^^ 255 = u := ⟨_, rfl⟩
      obtain ⟨hxor, hu2⟩ := flip_int q u hq hu
      have H3 := Lib.hid (h3.set g2 r u hu2)
      have H4 := Lib.hid (hb.other (set_grown _ ⟨g2, r, none⟩ (.int .u8 (u : Int))) (fun b e => by
        injection e with e
        have e : g2 = b := e
        subst e
        have p1 := (HP.out g2 rfl).1
        have z := HZ.out
        have y := HG.out
        exact ⟨fun e => by have := F3.out g2 e; omega, by omega, fun e => by have := hb.q.own.rowLe g2 e; omega, by omega⟩))
      have e1 : (0 : Int) ≤ (r : Int) := Int.natCast_nonneg _
      have e2 : (r : Int) < (n : Int) := by omega
      clear h3 hb hu
      go_wp2_with fail
      go_round
      case rel => exact ⟨r + 1, by omega, by go_num, H3.out, H4.out⟩
      case measure => simp [intOf]; omega
    · have e2 : ¬ (r : Int) < (n : Int) := by omega
      have H4 := Lib.hid hb
      clear h3 hb hr
      go_wp2_with fail
      go_loopw [44] (fun i wr => ∃ (j : Nat) (F : Nat → Prop) (A : Option Addr) (nq cq : Nat) (L : List Nat), j ≤ m ∧ i = .int .i64 j ∧ nq ≤ n ∧ Both w wr F g base gq A nq cq L) (fun i _ => m - (intOf i).toNat)
      case atStart => exact ⟨0, F, P4, n, c4, xs, by omega, rfl, Nat.le_refl _, H4.out⟩
      case round =>
        clear H4
        obtain ⟨j, F, A, nq, cq, L, hj, rfl, hnq, hb⟩ := hrel
        by_cases hlt : j < m
        · obtain ⟨b, off, rfl, hb0, hcs⟩ := H2.out.2.2 (by omega)
          have hrow := List.getElem?_eq_getElem (show j < l.length by rw [H2.out.1]; exact hlt)
          obtain ⟨x, y, hxy⟩ := HI.out _ (List.getElem_mem (show j < l.length by rw [H2.out.1]; exact hlt))
          rw [hxy] at hrow
          have hc0 := (hb.keep.cell (p := ⟨b, off + (j * 2 + 0), none⟩) hb0).trans (hcs j _ 0 _ hrow rfl)
          have hc1 := (hb.keep.cell (p := ⟨b, off + (j * 2 + 1), none⟩) hb0).trans (hcs j _ 1 _ hrow rfl)
          rw [Nat.add_zero] at hc0
          have hc1' := hc1
          rw [← Nat.add_assoc] at hc1'
          have e1 : (0 : Int) ≤ (j : Int) := Int.natCast_nonneg _
          have e2 : (j : Int) < (m : Int) := by omega
          clear hcs hrow hxy
          by_cases h200 : j = 200
          · have b0 : ((j : Int) == 200) = true := beq_iff_eq.2 (by omega)
            have HK := Lib.hid hb.keep
            clear hb h200
            go_wp2_with fail
            go_ret
            exact ⟨rfl, HK.out.alloc _ _⟩
          · have b0 : ((j : Int) == 200) = false := beq_eq_false_iff_ne.2 (by omega)
            have HA := Lib.hid (hb.later ((Keep.refl wr).alloc #[Value.int .i64 x, .int .i64 y] 40))
            have hD : g ≠ wr.heap.size := by have := hb.r.lt hb.r.at_; omega
            have hD2 : gq ≠ wr.heap.size := by have := lt_of_block hb.q.cell; omega
            have hD3 : (wr.alloc (.cells #[Value.int .i64 x, .int .i64 y] 40)).cell? ⟨wr.heap.size, 1, none⟩ = some (.int .i64 y) := by
              rw [World.cell?_alloc_at _ _ _ _ rfl]; rfl
            have HD := Lib.hid (And.intro hD (And.intro hD2 hD3))
            clear hb h200 hD hD2 hD3
            by_cases x0 : x = 0
            · subst x0
              obtain ⟨rv, hrv⟩ : ∃ v, readVal L y = v := ⟨_, rfl⟩
              obtain ⟨re, hre⟩ : ∃ v, readErr L y = v := ⟨_, rfl⟩
              have HE := Lib.hid (And.intro hrv hre)
              clear hrv hre
              go_wp2_with fail
              refine (wread_any F g L y _ HA.out.r).mono ?_
              rw [HE.out.1, HE.out.2]
              rintro e w6 ⟨rfl, ⟨F', r', f'⟩, k'⟩
              have hcy := k'.cell HD.out.2.2 (fun e => HD.out.1 (by injection e with e; exact e.symm))
              have HR := Lib.hid (And.intro r' (And.intro f' k'))
              clear r' f' k'
              go_wp2_with fail
              refine (rread_all base gq nq cq A L y _ (HA.out.q6 HR.out.2.2) (by omega) (Nat.le_trans HA.out.base_le HR.out.2.2.size)).mono ?_
              rw [HE.out.1, HE.out.2]
              rintro e w7 ⟨rfl, k2, A', n', c', q', hn', f2⟩
              have hb7 := HA.out.step HR.out.1 HR.out.2.1 HR.out.2.2 q' k2 f2
              clear hcy k2 q' f2
              have HB7 := Lib.hid (hb7)
              have hq := cell_of_one HB7.out.q.cell
              have hl := HB7.out.q.own.length
              have b1 : (((readLeft L y).length : Int) != (n' : Int)) = false := by rw [hl]; simp
              obtain ⟨bb, b2, b3⟩ := end_bools (readLeft L y) n' hl
              obtain ⟨LL, hLL⟩ : ∃ LL, readLeft L y = LL := ⟨_, rfl⟩
              rw [hLL] at b1 b2 HB7
              clear hl hLL
              go_wp2_with fail
              go_region_held3 (fun w' => w'.cell? ⟨gq, 0, none⟩ = some (.slice A' n' c'))
                (go_keep)
                (first | (go_at_call 19; refine (wleft_any F' g LL _ (HB7.out.r.keep (Keep.drew (Keep.refl _)))).mono ?_; rintro e w' ⟨rfl, rfl⟩) | (go_at_call 20; refine (wend_any F' g LL _ (HB7.out.r.keep (Keep.drew (Keep.refl _)))).mono ?_; rintro e w' ⟨rfl, rfl⟩))
              go_wp2_with fail
              go_roundw
              case rel => exact ⟨j + 1, F', A', n', c', LL, by omega, by go_num, by omega, HB7.out.later (Keep.drew (Keep.refl _))⟩
              case measure => simp [intOf]; omega
            · by_cases x1 : x = 1
              · subst x1
                obtain ⟨tv, htv⟩ : ∃ v, takeVal L y = v := ⟨_, rfl⟩
                obtain ⟨te, hte⟩ : ∃ v, takeErr L y = v := ⟨_, rfl⟩
                have htl : tv.length ≤ 140737488355328 := by
                  rw [← htv, takeVal]
                  split
                  · rw [List.length_take]; have := HA.out.q.own.length; omega
                  · simp
                have HE := Lib.hid (And.intro htv (And.intro hte htl))
                clear htv hte htl x0
                go_wp2_with fail
                refine (wtake_any F g L y _ HA.out.r).mono ?_
                rw [HE.out.1, HE.out.2.1]
                rintro e w6 ⟨A6, n6, c6, rfl, o6, ⟨F', r', f', g'⟩, k'⟩
                have hcy := k'.cell HD.out.2.2 (fun e => HD.out.1 (by injection e with e; exact e.symm))
                have HR := Lib.hid (And.intro r' (And.intro f' (And.intro g' k')))
                have O6 := Lib.hid o6
                clear r' f' g' k' o6
                go_wp2_with fail
                refine (rtake_all base gq nq cq A L y _ (HA.out.q6 HR.out.2.2.2) (by omega) (Nat.le_trans HA.out.base_le HR.out.2.2.2.size)).mono ?_
                rw [HE.out.1, HE.out.2.1]
                rintro e w7 ⟨A7, n7, c7, rfl, o7, k2, A', n', c', q', hn', f2⟩
                have hb7 := HA.out.step HR.out.1 HR.out.2.1 HR.out.2.2.2 q' k2 f2
                have hgq := lt_of_block HA.out.q.cell
                have hX : ∀ b, (Value.slice A6 n6 c6).ownBlock = some b → ¬ F' b ∧ b ≠ gq ∧ (Value.slice A' n' c').ownBlock ≠ some b ∧ w.heap.size ≤ b := fun b hb => by
                  have z1 := O6.out.rowLe b hb
                  have z2 := (O6.out.1.lt b hb).2
                  have z3 := HA.out.keep.size
                  refine ⟨HR.out.2.2.1 b hb, by omega, fun e => ?_, by omega⟩
                  rcases f2 b e with e | e
                  · have := HA.out.lt e; omega
                  · omega
                have o6' : Own w7 (wr.alloc (.cells #[Value.int .i64 1, .int .i64 y] 40)).heap.size 5 A6 n6 c6 tv := ⟨O6.out.1.kept k2 (by
                  cases hb : (Value.slice A6 n6 c6).ownBlock with
                  | none => exact Or.inl rfl
                  | some b => exact Or.inr fun e => (hX b hb).2.1 (by injection e)), O6.out.2⟩
                have HX := Lib.hid hX
                have O6' := Lib.hid o6'
                have O7 := Lib.hid o7
                have HB7 := Lib.hid hb7
                have hn6 : n6 ≤ 140737488355328 := by have := O6.out.length; have := HE.out.2.2; omega
                clear hcy k2 q' f2 hb7 hX o6' o7 hgq O6
                go_wp2_with fail
                refine (equal_any _ _ n6 n7 _ _ _ _ _ _ _ O6'.out.bytes O7.out.bytes).mono ?_
                rw [decide_eq_true rfl]
                rintro e w8 ⟨rfl, rfl⟩
                obtain ⟨LL, hLL⟩ : ∃ LL, takeLeft L y = LL := ⟨_, rfl⟩
                rw [hLL] at HB7
                have M6 : Hid (Mine (wr.alloc (.cells #[Value.int .i64 1, .int .i64 y] 40)) w7 A6 n6 c6) := ⟨_, O6'.out⟩
                have HWA := Lib.hid HA.out.keep.size
                clear hLL O6' O7
                go_wp2_with fail
                go_loopw [104] (fun i wr' => ∃ r : Nat, r ≤ n6 ∧ i = .int .i64 r ∧ Mine (wr.alloc (.cells #[Value.int .i64 1, .int .i64 y] 40)) wr' A6 n6 c6 ∧ Both w wr' F' g base gq A' n' c' LL) (fun i _ => n6 - (intOf i).toNat)
                case atStart => exact ⟨0, by omega, rfl, M6.out, HB7.out⟩
                case round =>
                  clear M6 HB7
                  obtain ⟨r2, hr2, rfl, h3, hb8⟩ := hrel
                  by_cases hlt2 : r2 < n6
                  · obtain ⟨g2, q, rfl, hg, hq, hc, hf⟩ := h3.at_ hlt2
                    obtain ⟨u, hu⟩ : ∃ u, q ^^^ 255 = u := ⟨_, rfl⟩
                    obtain ⟨hxor, hu2⟩ := flip_int q u hq hu
                    have H3 := Lib.hid (h3.set g2 r2 u hu2)
                    have H4 := Lib.hid (hb8.other (set_grown _ ⟨g2, r2, none⟩ (.int .u8 (u : Int))) (fun b e => by
                      injection e with e
                      have e : g2 = b := e
                      subst e
                      exact HX.out g2 rfl))
                    have e3 : (0 : Int) ≤ (r2 : Int) := Int.natCast_nonneg _
                    have e4 : (r2 : Int) < (n6 : Int) := by omega
                    clear h3 hb8 hu
                    go_wp2_with fail
                    go_round
                    case rel => exact ⟨r2 + 1, by omega, by go_num, H3.out, H4.out⟩
                    case measure => simp [intOf]; omega
                  · have e4 : ¬ (r2 : Int) < (n6 : Int) := by omega
                    clear h3 hr2
                    have HB7 := Lib.hid (hb8)
                    have hq := cell_of_one HB7.out.q.cell
                    have hl := HB7.out.q.own.length
                    have b1 : (((LL).length : Int) != (n' : Int)) = false := by rw [hl]; simp
                    obtain ⟨bb, b2, b3⟩ := end_bools (LL) n' hl
                    skip
                    clear hl hb8
                    go_wp2_with fail
                    go_region_held3 (fun w' => w'.cell? ⟨gq, 0, none⟩ = some (.slice A' n' c'))
                      (go_keep)
                      (first | (go_at_call 19; refine (wleft_any F' g LL _ (HB7.out.r.keep (Keep.drew (Keep.refl _)))).mono ?_; rintro e w' ⟨rfl, rfl⟩) | (go_at_call 20; refine (wend_any F' g LL _ (HB7.out.r.keep (Keep.drew (Keep.refl _)))).mono ?_; rintro e w' ⟨rfl, rfl⟩))
                    go_wp2_with fail
                    go_roundw
                    case rel => exact ⟨j + 1, F', A', n', c', LL, by omega, by go_num, by omega, HB7.out.later (Keep.drew (Keep.refl _))⟩
                    case measure => simp [intOf]; omega
              · have x2 : (x == 0) = false := beq_eq_false_iff_ne.2 x0
                have x3 : (x == 1) = false := beq_eq_false_iff_ne.2 x1
                have hb9 := HA.out
                clear x0 x1
                have HB7 := Lib.hid (hb9)
                have hq := cell_of_one HB7.out.q.cell
                have hl := HB7.out.q.own.length
                have b1 : (((L).length : Int) != (nq : Int)) = false := by rw [hl]; simp
                obtain ⟨bb, b2, b3⟩ := end_bools (L) nq hl
                obtain ⟨LL, hLL⟩ : ∃ LL, L = LL := ⟨_, rfl⟩
                rw [hLL] at b1 b2 HB7
                clear hl hLL hb9
                go_wp2_with fail
                go_region_held3 (fun w' => w'.cell? ⟨gq, 0, none⟩ = some (.slice A nq cq))
                  (go_keep)
                  (first | (go_at_call 19; refine (wleft_any F g LL _ (HB7.out.r.keep (Keep.drew (Keep.refl _)))).mono ?_; rintro e w' ⟨rfl, rfl⟩) | (go_at_call 20; refine (wend_any F g LL _ (HB7.out.r.keep (Keep.drew (Keep.refl _)))).mono ?_; rintro e w' ⟨rfl, rfl⟩))
                go_wp2_with fail
                go_roundw
                case rel => exact ⟨j + 1, F, A, nq, cq, LL, by omega, by go_num, by omega, HB7.out.later (Keep.drew (Keep.refl _))⟩
                case measure => simp [intOf]; omega
        · obtain rfl : m = j := by omega
          have HK := Lib.hid hb.keep
          clear hb
          go_wp2_with fail
          go_ret
          exact ⟨rfl, HK.out⟩
end Go.Proofs.Ytpmildbgmmiaeaa
