/- The landed queue: what it is in memory; its small functions. -/
import Derived.Test.YthgplballiibnaaQref
import Derived.Laws.CopyOwn
import Derived.Great.BuildSlice
namespace Go.Proofs.Ythgplballiibnaa
open Go.RowKit
set_option linter.unusedVariables false
/-- The queue's cells. -/
def qcells (pl fst n : Nat) (rg : List RowV) : Array Value := ([Value.int .i64 (pl : Int), .int .i64 (fst : Int), .int .i64 (n : Int)] ++ rg.map RowV.val).toArray
def nil64 : List RowV := List.replicate 64 ⟨none, 0, 0, []⟩
def ringOk (w : World) (F : Nat → Prop) (fst : Nat) (rg : List RowV) (L : List (List Nat)) : Prop :=
  ∀ j xs, L[j]? = some xs → ∃ r, rg[(fst + j) % 64]? = some r ∧ r.xs = xs ∧ LiesIn w F r
/-- The queue at block g: its places, its frames; what it holds lies in blocks of F. -/
structure QueR (w : World) (F : Nat → Prop) (g pl : Nat) (L : List (List Nat)) : Prop where
  at_ : F g
  lt : ∀ b, F b → b < w.heap.size
  ring : ∃ fst rg, fst < 64 ∧ rg.length = 64 ∧ w.heap[g]? = some (.cells (qcells pl fst L.length rg) 52 (0, 0)) ∧ ringOk w (fun b => F b ∧ b ≠ g) fst rg L
  short : L.length ≤ pl ∧ 1 ≤ pl ∧ pl ≤ 64 ∧ ∀ xs ∈ L, xs.length ≤ 70000
theorem QueR.turned {w w' : World} {F G : Nat → Prop} {g pl : Nat} {L : List (List Nat)} (h : QueR w F g pl L) (k : Turned G w w') (hd : ∀ b, F b → ¬ G b) : QueR w' F g pl L := by
  obtain ⟨fst, rg, h1, h2, h3, h4⟩ := h.ring
  refine ⟨h.at_, fun b hb => Nat.lt_of_lt_of_le (h.lt b hb) k.size, ⟨fst, rg, h1, h2, (k.block g (h.lt g h.at_) (hd g h.at_)).trans h3, fun j xs hj => ?_⟩, h.short⟩
  obtain ⟨r, a, b, c⟩ := h4 j xs hj
  exact ⟨r, a, b, c.turned k fun b hb => hd b hb.1⟩
theorem QueR.keep {w w' : World} {F : Nat → Prop} {g pl : Nat} {L : List (List Nat)} (h : QueR w F g pl L) (k : Keep w w') : QueR w' F g pl L := h.turned (Turned.of_keep (F := fun _ => False) k) fun _ _ e => e
/-- The cells, one by one. -/
theorem qcells_at {w : World} {g pl fst n : Nat} {rg : List RowV} {t : TypeId} (h : w.heap[g]? = some (.cells (qcells pl fst n rg) t (0, 0))) :
    w.cell? ⟨g, 0, none⟩ = some (.int .i64 (pl : Int)) ∧ w.cell? ⟨g, 1, none⟩ = some (.int .i64 (fst : Int)) ∧ w.cell? ⟨g, 2, none⟩ = some (.int .i64 (n : Int)) ∧ (∀ i, w.frozen? ⟨g, i, none⟩ = false) ∧ ∀ i r, rg[i]? = some r → w.cell? ⟨g, 3 + i, none⟩ = some (.slice r.A r.n r.c) := by
  refine ⟨?_, ?_, ?_, fun i => ?_, fun i r hr => ?_⟩
  · simp [World.cell?, h, qcells]
  · simp [World.cell?, h, qcells]
  · simp [World.cell?, h, qcells]
  · simp [World.frozen?, h]
  · simp only [World.cell?, h, qcells, List.getElem?_toArray]
    rw [Nat.add_comm, List.getElem?_append_right (by simp)]
    simp [hr, RowV.val]
theorem made_any (pl g : Nat) (F : Nat → Prop) (L : List (List Nat)) (w : World) (hq : QueR w F g pl L) :
    Calls Try.prog 22 #[.pointer (some ⟨g, 0, none⟩)] w fun e w' => e = .returned (.bool true) ∧ w = w' := by
  obtain ⟨fst, rg, _, _, hb, _⟩ := hq.ring
  obtain ⟨c0, _, _, _, _⟩ := qcells_at hb
  have b1 : decide (0 < pl) = true := decide_eq_true (by have := hq.short.2.1; omega)
  clear hq hb
  go_enter Try.func22, Try.ntmps22
  go_wp2_with fail
  go_ret
  exact ⟨rfl, rfl⟩
theorem made_nil (w : World) :
    Calls Try.prog 22 #[.pointer none] w fun e w' => e = .returned (.bool false) ∧ w = w' := by
  go_enter Try.func22, Try.ntmps22
  go_wp2_with fail
  go_ret
  exact ⟨rfl, rfl⟩
theorem stand_any (pl g fst n : Nat) (rg : List RowV) (k : Nat) (w : World) (h : w.heap[g]? = some (.cells (qcells pl fst n rg) 52 (0, 0))) (hf : fst < 64) (hk : k ≤ 64) :
    Calls Try.prog 24 #[.pointer (some ⟨g, 0, none⟩), .int .i64 (k : Int)] w fun e w' => e = .returned (.int .i64 (((fst + k) % 64 : Nat) : Int)) ∧ w = w' := by
  obtain ⟨_, c1, _, _, _⟩ := qcells_at h
  obtain ⟨s, hs⟩ : ∃ s, (fst + k) % 64 = s := ⟨_, rfl⟩
  have b2 : ((fst : Int) + (k : Int)) % 64 = (s : Int) := by omega
  rw [hs]
  clear h hs
  go_enter Try.func24, Try.ntmps24
  go_wp2_with fail
  go_ret
  exact ⟨by show Ending.returned (.int .i64 (((fst : Int) + (k : Int)) % 64)) = _; rw [b2], rfl⟩
theorem run_copy_made {P : Program} {w : World} {B n c ty t e : Nat} {A : Option Addr} {xs : List Nat} (ht : P.underlying t = some (.slice e)) (hs : (P.info? e).map (·.size) = some 1) (h : Bytes w B A n xs) (hB : B ≤ w.heap.size) :
    ∃ w', (Builtin.copy_ #[t, t] ty #[.slice (some ⟨w.heap.size, 0, none⟩) n n, .slice A n c]).run P (w.alloc (.cells (madeCells #[.int .u8 0] n) e)) = .ok (.int .i64 (n : Int)) w' ∧ w'.heap[w.heap.size]? = some (.cells (u8s xs).toArray e (0, 0)) ∧ Keep w w' := by
  have ha := heap_alloc_new w (.cells (madeCells #[.int .u8 0] n) e)
  have hz := size_madeCells #[Value.int .u8 0] n
  have hxl : (u8s xs).length = n := by rw [u8s_length, h.length]
  have hz' : (madeCells #[Value.int .u8 0] n).size = n := by simpa using hz
  by_cases h0 : n = 0
  · subst h0
    obtain rfl : xs = [] := List.eq_nil_of_length_eq_zero h.length
    refine ⟨_, run_copy_none _ t t ty e _ A 0 0 0 c ht hs (by simp), ?_, (Keep.refl w).alloc _ _⟩
    rw [ha, Array.eq_empty_of_size_eq_zero hz']; rfl
  · obtain ⟨b, off, rfl, _, _⟩ := h.2.2 (by omega)
    have hr := run_copy_row (P := P) (w.alloc (.cells (madeCells #[.int .u8 0] n) e)) t t ty e w.heap.size 0 n n ⟨b, off, none⟩ n c (madeCells #[.int .u8 0] n) e (u8s xs) ht hs ha (by rw [hxl]; simp) ((h.alloc hB _).cells (by omega)) (by omega) (u8s_one xs)
    rw [hxl] at hr
    refine ⟨_, hr, ?_, ((Keep.refl w).alloc _ _).setRow (Nat.le_refl _) ha⟩
    rw [setRow_heap _ _ _ _ _ _ ha]
    have e : ((madeCells #[Value.int .u8 0] n).toList.take 0 ++ u8s xs ++ (madeCells #[Value.int .u8 0] n).toList.drop (0 + n)) = u8s xs := by
      rw [List.take_zero, List.nil_append, List.drop_eq_nil_of_le (by simp [hz']), List.append_nil]
    rw [e]
theorem copy_any (B n c : Nat) (A : Option Addr) (xs : List Nat) (w : World) (h : Bytes w B A n xs) (hB : B ≤ w.heap.size) (hn : n ≤ 140737488355328) :
    Calls Try.prog 23 #[.slice A n c] w (NewBytes w xs) := by
  have hm := run_make_bytes (P := Try.prog) (t := 31) (e := 5) Try.underlying31 info5 n hn w
  obtain ⟨w1, hr, hg, hk⟩ := run_copy_made (P := Try.prog) (t := 31) (e := 5) (c := c) (ty := 3) Try.underlying31 (by kernel_rfl) h hB
  have HB := Lib.hid h
  have HG := Lib.hid hg
  have HK := Lib.hid hk
  clear h hg hk
  go_enter Try.func23, Try.ntmps23
  go_wp2_with fail
  go_ret
  refine ⟨_, n, n, rfl, ⟨⟨by rw [u8s_length, HB.out.length]; simp, Or.inr ⟨w.heap.size, n, _, rfl, Nat.le_refl _, HG.out, Nat.le_refl _, by unfold maxLen; omega, by simp [u8s_length, HB.out.length], ?_⟩⟩, HB.out.all⟩, HK.out⟩
  simp [List.take_of_length_le, u8s_length, HB.out.length]
theorem qlen_any (pl g : Nat) (F : Nat → Prop) (L : List (List Nat)) (w : World) (hq : QueR w F g pl L) :
    Calls Try.prog 19 #[.pointer (some ⟨g, 0, none⟩)] w fun e w' => e = .returned (.int .i64 (L.length : Int)) ∧ w = w' := by
  obtain ⟨fst, rg, _, _, hb, _⟩ := hq.ring
  obtain ⟨_, _, c2, _, _⟩ := qcells_at hb
  have HQ := Lib.hid hq
  clear hq hb
  go_enter Try.func19, Try.ntmps19
  go_wp2_with fail
  refine (made_any pl g F L _ HQ.out).mono ?_
  rintro e w' ⟨rfl, rfl⟩
  go_wp2_with fail
  go_ret
  exact ⟨rfl, rfl⟩
theorem qfree_any (pl g : Nat) (F : Nat → Prop) (L : List (List Nat)) (w : World) (hq : QueR w F g pl L) :
    Calls Try.prog 20 #[.pointer (some ⟨g, 0, none⟩)] w fun e w' => e = .returned (.int .i64 ((pl : Int) - (L.length : Int))) ∧ ∃ k, w' = w.drewN k := by
  obtain ⟨fst, rg, _, _, hb, _⟩ := hq.ring
  obtain ⟨c0, _, c2, _, _⟩ := qcells_at hb
  have h1 := hq.short.1
  have h2 := hq.short.2.2.1
  have b1 : wrap64 ((pl : Int) - (L.length : Int)) = (pl : Int) - (L.length : Int) := IntWalk.wrap64_in _ ⟨by omega, by omega⟩
  have HQ := Lib.hid hq
  clear hq hb h1 h2
  go_enter Try.func20, Try.ntmps20
  go_wp2_with fail
  refine (made_any pl g F L _ HQ.out).mono ?_
  rintro e w' ⟨rfl, rfl⟩
  go_wp2_with fail
  go_quiet (fail)
  go_wp2_with fail
  go_ret
  exact ⟨by show Ending.returned (.int .i64 (wrap64 ((pl : Int) - (L.length : Int)))) = _; rw [b1], _, rfl⟩
theorem qlen_nil (w : World) : Calls Try.prog 19 #[.pointer none] w fun e w' => e = .returned (.int .i64 0) ∧ w = w' := by
  go_enter Try.func19, Try.ntmps19
  go_wp2_with fail
  refine (made_nil _).mono ?_
  rintro e w' ⟨rfl, rfl⟩
  go_wp2_with fail
  go_ret
  exact ⟨rfl, rfl⟩
theorem qfree_nil (w : World) : Calls Try.prog 20 #[.pointer none] w fun e w' => e = .returned (.int .i64 0) ∧ w = w' := by
  go_enter Try.func20, Try.ntmps20
  go_wp2_with fail
  refine (made_nil _).mono ?_
  rintro e w' ⟨rfl, rfl⟩
  go_wp2_with fail
  go_ret
  exact ⟨rfl, rfl⟩
theorem qnew_out (pl : Int) (h : pl < 1 ∨ 64 < pl) (w : World) :
    Calls Try.prog 8 #[.int .i64 pl] w fun e w' => e = .returned (.tuple #[.pointer none, .int .i64 1]) ∧ w = w' := by
  by_cases h1 : pl < 1
  · have b1 : decide (pl < 1) = true := decide_eq_true h1
    clear h
    go_enter Try.func8, Try.ntmps8
    go_wp2_with fail
    go_ret2
    exact ⟨rfl, rfl⟩
  · have h2 : 64 < pl := by omega
    have b1 : decide (pl < 1) = false := decide_eq_false h1
    clear h
    go_enter Try.func8, Try.ntmps8
    go_wp2_with fail
    go_ret2
    exact ⟨rfl, rfl⟩
theorem qnew_in (pl : Nat) (h1 : 1 ≤ pl) (h2 : pl ≤ 64) (w : World) :
    Calls Try.prog 8 #[.int .i64 (pl : Int)] w fun e w' => ∃ g, e = .returned (.tuple #[.pointer (some ⟨g, 0, none⟩), .int .i64 0]) ∧ ∃ F, QueR w' F g pl [] ∧ (∀ b, F b → w.heap.size ≤ b) ∧ Keep w w' := by
  have b1 : decide ((pl : Int) < 1) = false := decide_eq_false (by omega)
  have b2 : ¬ (64 : Int) < (pl : Int) := by omega
  go_enter Try.func8, Try.ntmps8
  go_wp2_with (refine wpList_buildTo rfl _ _ rfl _ rfl (qcells pl 0 0 nil64) (by kernel_rfl) ?_)
  go_wp2_with fail
  go_ret2
  refine ⟨w.heap.size, rfl, fun b => b = w.heap.size, ⟨rfl, fun b e => ?_, ⟨0, nil64, by omega, rfl, heap_alloc_new _ _, fun j xs hj => by simp at hj⟩, ⟨Nat.zero_le _, h1, h2, fun xs hx => by simp at hx⟩⟩, fun b e => ?_, (Keep.refl w).alloc _ _⟩
  · subst e; simp
  · subst e; exact Nat.le_refl _
end Go.Proofs.Ythgplballiibnaa
