/- The landed credit: how both accounts lie, and their small functions. -/
import Derived.Test.YtgogafhpchfinaaQaa
import Derived.StillTailTactics
import Derived.Laws.EntriesVeiled
namespace Go.Proofs.Ytgogafhpchfinaa
open Go.RowKit
set_option linter.unusedVariables false
set_option linter.unusedSimpArgs false
/-- A sender's account in block g. -/
structure SenR (w : World) (g own peer gr us : Nat) : Prop where
  block : w.heap[g]? = some (.cells #[.int .u64 (own : Int), .int .u64 (peer : Int), .complex .f64 (fl gr) (fl us)] 77 (0, 0))
  low : 1 ≤ own
  high : own ≤ 1125899906842624
  hp : peer ≤ 1125899906842624
  hg : gr ≤ 1125899906842624
  hu : us ≤ 1125899906842624
/-- A receiver's. -/
structure RecR (w : World) (g pl peer gr sn : Nat) : Prop where
  block : w.heap[g]? = some (.cells #[.int .i64 (pl : Int), .int .u64 (peer : Int), .complex .f64 (fl gr) (fl sn)] 74 (0, 0))
  low : 1 ≤ pl
  high : pl ≤ 64
  hp : peer ≤ 1125899906842624
  hg : gr ≤ 1125899906842624
  hs : sn ≤ 1125899906842624
namespace SenR
variable {w w' : World} {g own peer gr us : Nat}
theorem lt (h : SenR w g own peer gr us) : g < w.heap.size := (Array.getElem?_eq_some_iff.1 h.block).1
theorem c0 (h : SenR w g own peer gr us) : w.cell? ⟨g, 0, none⟩ = some (.int .u64 (own : Int)) := by simp [World.cell?, h.block]
theorem c1 (h : SenR w g own peer gr us) : w.cell? ⟨g, 1, none⟩ = some (.int .u64 (peer : Int)) := by simp [World.cell?, h.block]
theorem c2 (h : SenR w g own peer gr us) : w.cell? ⟨g, 2, none⟩ = some (.complex .f64 (fl gr) (fl us)) := by simp [World.cell?, h.block]
theorem f1 (h : SenR w g own peer gr us) : w.frozen? ⟨g, 1, none⟩ = false := by simp [World.frozen?, h.block]
theorem f2 (h : SenR w g own peer gr us) : w.frozen? ⟨g, 2, none⟩ = false := by simp [World.frozen?, h.block]
theorem turned {G : Nat → Prop} (h : SenR w g own peer gr us) (t : Turned G w w') (hn : ¬ G g) : SenR w' g own peer gr us := ⟨(t.block g h.lt hn).trans h.block, h.low, h.high, h.hp, h.hg, h.hu⟩
theorem keep (h : SenR w g own peer gr us) (t : Keep w w') : SenR w' g own peer gr us := ⟨(t.block g h.lt).trans h.block, h.low, h.high, h.hp, h.hg, h.hu⟩
theorem peers (h : SenR w g own peer gr us) {p : Nat} (hp : p ≤ 1125899906842624) : SenR (w.setCell ⟨g, 1, none⟩ (.int .u64 (p : Int))) g own p gr us :=
  ⟨by simp [World.setCell, Array.getElem?_modify, h.block], h.low, h.high, hp, h.hg, h.hu⟩
theorem counts (h : SenR w g own peer gr us) {a b : Nat} (ha : a ≤ 1125899906842624) (hb : b ≤ 1125899906842624) : SenR (w.setCell ⟨g, 2, none⟩ (.complex .f64 (fl a) (fl b))) g own peer a b :=
  ⟨by simp [World.setCell, Array.getElem?_modify, h.block], h.low, h.high, h.hp, ha, hb⟩
end SenR
namespace RecR
variable {w w' : World} {g pl peer gr sn : Nat}
theorem lt (h : RecR w g pl peer gr sn) : g < w.heap.size := (Array.getElem?_eq_some_iff.1 h.block).1
theorem c0 (h : RecR w g pl peer gr sn) : w.cell? ⟨g, 0, none⟩ = some (.int .i64 (pl : Int)) := by simp [World.cell?, h.block]
theorem c1 (h : RecR w g pl peer gr sn) : w.cell? ⟨g, 1, none⟩ = some (.int .u64 (peer : Int)) := by simp [World.cell?, h.block]
theorem c2 (h : RecR w g pl peer gr sn) : w.cell? ⟨g, 2, none⟩ = some (.complex .f64 (fl gr) (fl sn)) := by simp [World.cell?, h.block]
theorem f1 (h : RecR w g pl peer gr sn) : w.frozen? ⟨g, 1, none⟩ = false := by simp [World.frozen?, h.block]
theorem f2 (h : RecR w g pl peer gr sn) : w.frozen? ⟨g, 2, none⟩ = false := by simp [World.frozen?, h.block]
theorem turned {G : Nat → Prop} (h : RecR w g pl peer gr sn) (t : Turned G w w') (hn : ¬ G g) : RecR w' g pl peer gr sn := ⟨(t.block g h.lt hn).trans h.block, h.low, h.high, h.hp, h.hg, h.hs⟩
theorem keep (h : RecR w g pl peer gr sn) (t : Keep w w') : RecR w' g pl peer gr sn := ⟨(t.block g h.lt).trans h.block, h.low, h.high, h.hp, h.hg, h.hs⟩
theorem peers (h : RecR w g pl peer gr sn) {p : Nat} (hp : p ≤ 1125899906842624) : RecR (w.setCell ⟨g, 1, none⟩ (.int .u64 (p : Int))) g pl p gr sn :=
  ⟨by simp [World.setCell, Array.getElem?_modify, h.block], h.low, h.high, hp, h.hg, h.hs⟩
theorem counts (h : RecR w g pl peer gr sn) {a b : Nat} (ha : a ≤ 1125899906842624) (hb : b ≤ 1125899906842624) : RecR (w.setCell ⟨g, 2, none⟩ (.complex .f64 (fl a) (fl b))) g pl peer a b :=
  ⟨by simp [World.setCell, Array.getElem?_modify, h.block], h.low, h.high, h.hp, ha, hb⟩
end RecR
section
variable {w : World}
/-- What a count is when it is read. -/
theorem conv_count (n : Nat) (hn : n ≤ 1125899906842624) (w : World) : (convert 83 22 (.float .f64 (fl n))).run Try.prog w = .ok (.int .u64 (n : Int)) w :=
  run_convert_float_int (P := Try.prog) (w := w) (src := 83) (dst := 22) (s := .f64) (k := .u64) (b := fl n) (n := n) (by rw [Try.underlying83]; rfl) Try.underlying22 (fl_toU64 (by omega))
theorem conv_float (n : Nat) (w : World) : (convert 22 83 (.int .u64 (n : Int))).run Try.prog w = .ok (.float .f64 (fl n)) w := by
  have := run_convert_int_float (P := Try.prog) (w := w) 22 83 .u64 .f64 (n : Int) (by rw [Try.underlying22]; rfl) Try.underlying83
  rw [flOfInt] at this
  exact this
theorem granted_any (a b : Nat) (ha : a ≤ 1125899906842624) (w : World) : Calls Try.prog 32 #[.complex .f64 (fl a) (fl b)] w fun e w' => e = .returned (.int .u64 (a : Int)) ∧ w' = w := by
  have h1 := conv_count a ha w
  go_enter Try.func32, Try.ntmps32
  go_wp2_with fail
  go_ret
  exact ⟨rfl, rfl⟩
theorem reached_any (a b : Nat) (hb : b ≤ 1125899906842624) (w : World) : Calls Try.prog 35 #[.complex .f64 (fl a) (fl b)] w fun e w' => e = .returned (.int .u64 (b : Int)) ∧ w' = w := by
  have h1 := conv_count b hb w
  go_enter Try.func35, Try.ntmps35
  go_wp2_with fail
  go_ret
  exact ⟨rfl, rfl⟩
theorem withGranted_any (a b n : Nat) (w : World) : Calls Try.prog 33 #[.complex .f64 (fl a) (fl b), .int .u64 (n : Int)] w fun e w' => e = .returned (.complex .f64 (fl n) (fl b)) ∧ w' = w := by
  have h1 := conv_float n w
  go_enter Try.func33, Try.ntmps33
  go_wp2_with fail
  go_ret
  exact ⟨rfl, rfl⟩
theorem withReached_any (a b n : Nat) (w : World) : Calls Try.prog 30 #[.complex .f64 (fl a) (fl b), .int .u64 (n : Int)] w fun e w' => e = .returned (.complex .f64 (fl a) (fl n)) ∧ w' = w := by
  have h1 := conv_float n w
  go_enter Try.func30, Try.ntmps30
  go_wp2_with fail
  go_ret
  exact ⟨rfl, rfl⟩
theorem life_any (n : Nat) (b : Bool) (hb : b = decide (1 ≤ n ∧ n ≤ 1125899906842624)) (w : World) : Calls Try.prog 28 #[.int .u64 (n : Int)] w fun e w' => e = .returned (.bool b) ∧ w' = w := by
  by_cases h1 : 1 ≤ n
  · have d1 : decide ((1 : Int) ≤ (n : Int)) = true := decide_eq_true (by omega)
    by_cases h2 : n ≤ 1125899906842624
    · have d2 : decide ((n : Int) ≤ 1125899906842624) = true := decide_eq_true (by omega)
      obtain rfl : b = true := by rw [hb]; exact decide_eq_true ⟨h1, h2⟩
      clear hb h1 h2
      go_enter Try.func28, Try.ntmps28
      go_wp2_with fail
      go_ret
      exact ⟨rfl, rfl⟩
    · have d2 : decide ((n : Int) ≤ 1125899906842624) = false := decide_eq_false (by omega)
      obtain rfl : b = false := by rw [hb]; exact decide_eq_false (fun h => h2 h.2)
      clear hb h1 h2
      go_enter Try.func28, Try.ntmps28
      go_wp2_with fail
      go_ret
      exact ⟨rfl, rfl⟩
  · have d1 : decide ((1 : Int) ≤ (n : Int)) = false := decide_eq_false (by omega)
    obtain rfl : b = false := by rw [hb]; exact decide_eq_false (fun h => h1 h.1)
    clear hb h1
    go_enter Try.func28, Try.ntmps28
    go_wp2_with fail
    go_ret
    exact ⟨rfl, rfl⟩
/-- The closure, over what was kept of lives. -/
theorem look_less (g i : Nat) (life peer b : Nat) (w : World) (hb : w.cell? ⟨b, 0, none⟩ = some (.pointer (some ⟨g, i, none⟩))) (hc : w.cell? ⟨g, i, none⟩ = some (.int .u64 (peer : Int))) (h : life < peer) :
    Calls Try.prog 36 #[.int .u64 (life : Int), .pointer (some ⟨b, 0, none⟩)] w fun e w' => e = .returned (.tuple #[.bool false, .int .i64 22]) ∧ w' = w := by
  have d1 : (life : Int) < (peer : Int) := by omega
  clear h
  go_enter Try.func36, Try.ntmps36
  go_wp2_with fail
  go_ret2
  exact ⟨rfl, rfl⟩
theorem look_more (g i : Nat) (life peer b : Nat) (l : Bool) (hl : l = decide (peer < life)) (w : World) (hb : w.cell? ⟨b, 0, none⟩ = some (.pointer (some ⟨g, i, none⟩))) (hc : w.cell? ⟨g, i, none⟩ = some (.int .u64 (peer : Int))) (hf : w.frozen? ⟨g, i, none⟩ = false) (h : peer ≤ life) :
    Calls Try.prog 36 #[.int .u64 (life : Int), .pointer (some ⟨b, 0, none⟩)] w fun e w' => e = .returned (.tuple #[.bool l, .int .i64 0]) ∧ w' = w.setCell ⟨g, i, none⟩ (.int .u64 (life : Int)) := by
  have d1 : ¬ (life : Int) < (peer : Int) := by omega
  have HL := Lib.hid hl
  clear h hl
  go_enter Try.func36, Try.ntmps36
  go_wp2_with fail
  go_ret2
  exact ⟨by rw [HL.out]; rfl, rfl⟩
theorem watch_any (p : Addr) (w : World) : Calls Try.prog 31 #[.pointer (some p)] w fun e w' => e = .returned (.func (.func 36) #[] #[.pointer (some ⟨w.heap.size, 0, none⟩)]) ∧ w'.cell? ⟨w.heap.size, 0, none⟩ = some (.pointer (some p)) ∧ Keep w w' := by
  go_enter Try.func31, Try.ntmps31
  go_wp2_with fail
  go_ret
  exact ⟨rfl, cell_of_one (heap_alloc_new _ _), (Keep.refl w).alloc _ _⟩
end
end Go.Proofs.Ytgogafhpchfinaa
/- The landed credit: the methods of both accounts, each in one contract. -/
namespace Go.Proofs.Ytgogafhpchfinaa
open Go.RowKit
set_option linter.unusedVariables false
set_option linter.unusedSimpArgs false
theorem run_most (ts : Array TypeId) (t : TypeId) (a b m : Nat) (h : max a b = m) (w : World) : (Builtin.max_ ts t #[.int .u64 (a : Int), .int .u64 (b : Int)]).run Try.prog w = .ok (.int .u64 (m : Int)) w := by
  rw [run_max_int2]; congr 2; split <;> omega
theorem run_least64 (ts : Array TypeId) (t : TypeId) (a m : Nat) (h : min a 1125899906842624 = m) (w : World) : (Builtin.min_ ts t #[.int .u64 (a : Int), .int .u64 1125899906842624]).run Try.prog w = .ok (.int .u64 (m : Int)) w := by
  rw [run_min_int2]; congr 2; split <;> omega
@[go_sem] theorem run_store_complex {P : Program} {w : World} {m : Mode} {a : Addr} (k : FloatKind) (x y : Nat) : (store a (.complex k x y) m).run P w = stored P w a (.complex k x y) m := run_store P w a _ m rfl
section
variable {g own peer gr us pl sn : Nat} {w : World}
theorem smade (h : SenR w g own peer gr us) : Calls Try.prog 29 #[.pointer (some ⟨g, 0, none⟩)] w fun e w' => e = .returned (.bool true) ∧ w' = w := by
  have c := h.c0
  have hl := h.low
  have d1 : decide ((0 : Int) < (own : Int)) = true := decide_eq_true (by omega)
  have d2 : decide (0 < own) = true := decide_eq_true (by omega)
  have H := Lib.hid h
  clear h hl
  go_enter Try.func29, Try.ntmps29
  go_wp2_with fail
  go_ret
  exact ⟨rfl, rfl⟩
theorem rmade (h : RecR w g pl peer gr sn) : Calls Try.prog 34 #[.pointer (some ⟨g, 0, none⟩)] w fun e w' => e = .returned (.bool true) ∧ w' = w := by
  have c := h.c0
  have hl := h.low
  have d1 : decide ((0 : Int) < (pl : Int)) = true := decide_eq_true (by omega)
  have d2 : decide (0 < pl) = true := decide_eq_true (by omega)
  have H := Lib.hid h
  clear h hl
  go_enter Try.func34, Try.ntmps34
  go_wp2_with fail
  go_ret
  exact ⟨rfl, rfl⟩
theorem ssent (h : SenR w g own peer gr us) : Calls Try.prog 24 #[.pointer (some ⟨g, 0, none⟩)] w fun e w' => e = .returned (.int .u64 (us : Int)) ∧ w' = w := by
  have c := h.c2
  go_enter Try.func24, Try.ntmps24
  go_wp2_with fail
  refine (smade h).mono ?_
  rintro e w1 ⟨rfl, rfl⟩
  go_wp2_with fail
  refine (reached_any gr us h.hu _).mono ?_
  rintro e w1 ⟨rfl, rfl⟩
  go_wp2_with fail
  go_ret
  exact ⟨rfl, rfl⟩
theorem sgranted (h : SenR w g own peer gr us) : Calls Try.prog 25 #[.pointer (some ⟨g, 0, none⟩)] w fun e w' => e = .returned (.int .u64 (gr : Int)) ∧ w' = w := by
  have c := h.c2
  go_enter Try.func25, Try.ntmps25
  go_wp2_with fail
  refine (smade h).mono ?_
  rintro e w1 ⟨rfl, rfl⟩
  go_wp2_with fail
  refine (granted_any gr us h.hg _).mono ?_
  rintro e w1 ⟨rfl, rfl⟩
  go_wp2_with fail
  go_ret
  exact ⟨rfl, rfl⟩
theorem rlife (h : RecR w g pl peer gr sn) : Calls Try.prog 26 #[.pointer (some ⟨g, 0, none⟩)] w fun e w' => e = .returned (.int .u64 (peer : Int)) ∧ w' = w := by
  have c := h.c1
  go_enter Try.func26, Try.ntmps26
  go_wp2_with fail
  refine (rmade h).mono ?_
  rintro e w1 ⟨rfl, rfl⟩
  go_wp2_with fail
  go_ret
  exact ⟨rfl, rfl⟩
theorem rseen (h : RecR w g pl peer gr sn) : Calls Try.prog 27 #[.pointer (some ⟨g, 0, none⟩)] w fun e w' => e = .returned (.int .u64 (sn : Int)) ∧ w' = w := by
  have c := h.c2
  go_enter Try.func27, Try.ntmps27
  go_wp2_with fail
  refine (rmade h).mono ?_
  rintro e w1 ⟨rfl, rfl⟩
  go_wp2_with fail
  refine (reached_any gr sn h.hs _).mono ?_
  rintro e w1 ⟨rfl, rfl⟩
  go_wp2_with fail
  go_ret
  exact ⟨rfl, rfl⟩
theorem smay (h : SenR w g own peer gr us) : Calls Try.prog 22 #[.pointer (some ⟨g, 0, none⟩)] w fun e w' => e = .returned (.bool (decide (us < gr))) ∧ w' = w := by
  go_enter Try.func22, Try.ntmps22
  go_wp2_with fail
  refine (sgranted h).mono ?_
  rintro e w1 ⟨rfl, rfl⟩
  go_wp2_with fail
  refine (ssent h).mono ?_
  rintro e w1 ⟨rfl, rfl⟩
  go_wp2_with fail
  go_ret
  exact ⟨by simp, rfl⟩
/-- What Use leaves and tells. -/
def useU (gr us : Nat) : Nat := if us < gr then us + 1 else us
def useV (gr us : Nat) : Nat := if us < gr then us + 1 else 0
def useE (gr us : Nat) : Int := if us < gr then 0 else 26
set_option maxHeartbeats 1000000 in
theorem suse (h : SenR w g own peer gr us) : Calls Try.prog 14 #[.pointer (some ⟨g, 0, none⟩)] w fun e w' => e = .returned (.tuple #[.int .u64 (useV gr us : Int), .int .i64 (useE gr us)]) ∧ SenR w' g own peer gr (useU gr us) ∧ Turned (fun b => b = g) w w' := by
  have hg := h.hg
  by_cases hlt : us < gr
  · obtain ⟨u1, hu1⟩ : ∃ u, us + 1 = u := ⟨_, rfl⟩
    have eV : useV gr us = u1 := by unfold useV; rw [if_pos hlt, hu1]
    have eU : useU gr us = u1 := by unfold useU; rw [if_pos hlt, hu1]
    have eE : useE gr us = 0 := if_pos hlt
    have cM := (smay h).mono fun e w' q => (⟨by rw [q.1, decide_eq_true hlt], q.2⟩ : e = .returned (.bool true) ∧ w' = w)
    have s1 : IntKind.u64.wrap ((us : Int) + 1) = (u1 : Int) := by rw [IntWalk.u64_in _ (by omega)]; omega
    have hD : SenR w.drew g own peer gr us := h.keep (Keep.refl w).drew
    have c2 := hD.c2
    have fz := hD.f2
    have h2 := hD.counts (a := gr) (b := u1) hg (by omega)
    have CS := Lib.hid ((ssent hD).mono fun e w' q => (⟨q.1, q.2⟩ : e = .returned (.int .u64 (us : Int)) ∧ w' = w.drew))
    have CR := Lib.hid ((withReached_any gr us u1 w.drew).mono fun e w' q => (⟨q.1, q.2⟩ : e = .returned (.complex .f64 (fl gr) (fl u1)) ∧ w' = w.drew))
    have C3 := Lib.hid (ssent h2)
    have H2 := Lib.hid h2
    have HT : Hid (Turned (fun b => b = g) w (w.drew.setCell ⟨g, 2, none⟩ (.complex .f64 (fl gr) (fl u1)))) := (Turned.of_keep (F := fun b => b = g) (Keep.refl w).drew).trans (Turned.set (F := fun b => b = g) _ ⟨g, 2, none⟩ _ rfl) fun i e => Or.inl e
    rw [eV, eU, eE]
    clear hu1 eV eU eE hlt h2 hg hD
    go_enter Try.func14, Try.ntmps14
    go_wp2_with fail
    refine (smade h).mono ?_
    rintro e w1 ⟨rfl, rfl⟩
    go_wp2_with fail
    refine cM.mono ?_
    rintro e w1 ⟨rfl, rfl⟩
    go_wp2_with fail
    refine wp_region_still_tail (w := w1) 11 (by kernel_rfl) (by kernel_rfl) ?_
    simp only [List.take_succ_cons, List.take_zero, List.drop_succ_cons, List.drop_zero]
    change wpStill _ _ (World.drew w1) _ _ _
    iterate 6 still_step
    still_call CS.out
    iterate 1 still_step
    still_call CR.out
    iterate 2 still_step
    refine wpStill_nil ?_
    change wpList _ _ _ _ _ (World.drew w1)
    go_wp2_with fail
    refine C3.out.mono ?_
    rintro e w2 ⟨rfl, rfl⟩
    go_wp2_with fail
    go_ret2
    exact ⟨rfl, H2.out, HT.out⟩
  · have eV : useV gr us = 0 := if_neg hlt
    have eU : useU gr us = us := if_neg hlt
    have eE : useE gr us = 26 := if_neg hlt
    have cM := (smay h).mono fun e w' q => (⟨by rw [q.1, decide_eq_false hlt], q.2⟩ : e = .returned (.bool false) ∧ w' = w)
    rw [eV, eU, eE]
    clear eV eU eE hlt hg
    go_enter Try.func14, Try.ntmps14
    go_wp2_with fail
    refine (smade h).mono ?_
    rintro e w1 ⟨rfl, rfl⟩
    go_wp2_with fail
    refine cM.mono ?_
    rintro e w1 ⟨rfl, rfl⟩
    go_wp2_with fail
    go_ret2
    exact ⟨rfl, h, Turned.refl _ _⟩
end
end Go.Proofs.Ytgogafhpchfinaa
/- The landed credit: Take, Saw, Grant and both New, each in one contract. -/
namespace Go.Proofs.Ytgogafhpchfinaa
open Go.RowKit
set_option linter.unusedVariables false
set_option linter.unusedSimpArgs false
/-- A life and a count that may be. -/
def okL (n : Nat) : Bool := decide (1 ≤ n ∧ n ≤ 1125899906842624)
/-- What Take tells and leaves. -/
def takeE (own peer life to n : Nat) : Int := if okL life = false ∨ 1125899906842624 < to ∨ 1125899906842624 < n then 1 else if to ≠ own ∨ life < peer then 22 else 0
def takeP (own peer life to n : Nat) : Nat := if takeE own peer life to n = 0 then life else peer
def takeG (own peer gr life to n : Nat) : Nat := if takeE own peer life to n = 0 ∧ (peer < life ∨ gr < n) then n else gr
/-- What Saw tells and leaves. -/
def sawE (peer life n : Nat) : Int := if okL life = false ∨ 1125899906842624 < n then 1 else if life < peer then 22 else 0
def sawP (peer life n : Nat) : Nat := if sawE peer life n = 0 then life else peer
def sawG (peer gr life n : Nat) : Nat := if sawE peer life n = 0 ∧ peer < life then 0 else gr
def sawS (peer sn life n : Nat) : Nat := if sawE peer life n = 0 then (if peer < life then n else max n sn) else sn
/-- What Grant tells and leaves. -/
def grE (pl : Nat) (f : Int) : Int := if f < 0 ∨ (pl : Int) < f then 1 else 0
def grG (pl gr sn : Nat) (f : Int) : Nat := if grE pl f = 0 then max (min (sn + f.toNat) 1125899906842624) gr else gr
def grV (pl gr sn : Nat) (f : Int) : Nat := if grE pl f = 0 then grG pl gr sn f else 0
section
variable {g own peer gr us pl sn : Nat} {w : World}
set_option maxHeartbeats 2000000 in
theorem take_arg (life to n : Nat) (h : SenR w g own peer gr us) (hb : okL life = false ∨ 1125899906842624 < to ∨ 1125899906842624 < n) : Calls Try.prog 16 #[.pointer (some ⟨g, 0, none⟩), .int .u64 (life : Int), .int .u64 (to : Int), .int .u64 (n : Int)] w fun e w' => e = .returned (.int .i64 1) ∧ SenR w' g own peer gr us ∧ Turned (fun b => b = g) w w' := by
  cases hl : okL life with
  | false =>
    clear hb
    go_enter Try.func16, Try.ntmps16
    go_wp2_with fail
    refine (smade h).mono ?_
    rintro e w1 ⟨rfl, rfl⟩
    go_wp2_with fail
    refine (life_any life false hl.symm _).mono ?_
    rintro e w1 ⟨rfl, rfl⟩
    go_wp2_with fail
    go_ret
    exact ⟨rfl, h, Turned.refl _ _⟩
  | true =>
    by_cases ht : 1125899906842624 < to
    · have d1 : decide ((1125899906842624 : Int) < (to : Int)) = true := decide_eq_true (by omega)
      clear hb
      go_enter Try.func16, Try.ntmps16
      go_wp2_with fail
      refine (smade h).mono ?_
      rintro e w1 ⟨rfl, rfl⟩
      go_wp2_with fail
      refine (life_any life true hl.symm _).mono ?_
      rintro e w1 ⟨rfl, rfl⟩
      go_wp2_with fail
      go_ret
      exact ⟨rfl, h, Turned.refl _ _⟩
    · have hn : 1125899906842624 < n := by
        rcases hb with hb | hb | hb
        · rw [hl] at hb; cases hb
        · omega
        · exact hb
      have d1 : decide ((1125899906842624 : Int) < (to : Int)) = false := decide_eq_false (by omega)
      have d2 : decide ((1125899906842624 : Int) < (n : Int)) = true := decide_eq_true (by omega)
      clear hb ht hn
      go_enter Try.func16, Try.ntmps16
      go_wp2_with fail
      refine (smade h).mono ?_
      rintro e w1 ⟨rfl, rfl⟩
      go_wp2_with fail
      refine (life_any life true hl.symm _).mono ?_
      rintro e w1 ⟨rfl, rfl⟩
      go_wp2_with fail
      go_ret
      exact ⟨rfl, h, Turned.refl _ _⟩
set_option maxHeartbeats 2000000 in
theorem take_to (life to n : Nat) (h : SenR w g own peer gr us) (hl : okL life = true) (ht : to ≤ 1125899906842624) (hn : n ≤ 1125899906842624) (ho : to ≠ own) : Calls Try.prog 16 #[.pointer (some ⟨g, 0, none⟩), .int .u64 (life : Int), .int .u64 (to : Int), .int .u64 (n : Int)] w fun e w' => e = .returned (.int .i64 22) ∧ SenR w' g own peer gr us ∧ Turned (fun b => b = g) w w' := by
  have d1 : decide ((1125899906842624 : Int) < (to : Int)) = false := decide_eq_false (by omega)
  have d2 : decide ((1125899906842624 : Int) < (n : Int)) = false := decide_eq_false (by omega)
  have c0 := h.c0
  have d3 : decide ((to : Int) = (own : Int)) = false := decide_eq_false (by omega)
  have d4 : ¬ (to : Int) = (own : Int) := by omega
  have d5 : decide (to = own) = false := decide_eq_false ho
  clear ht hn ho
  go_enter Try.func16, Try.ntmps16
  go_wp2_with fail
  refine (smade h).mono ?_
  rintro e w1 ⟨rfl, rfl⟩
  go_wp2_with fail
  refine (life_any life true hl.symm _).mono ?_
  rintro e w1 ⟨rfl, rfl⟩
  go_wp2_with fail
  go_ret
  exact ⟨rfl, h, Turned.refl _ _⟩
set_option maxHeartbeats 2000000 in
theorem take_late (life to n : Nat) (h : SenR w g own peer gr us) (hl : okL life = true) (hn : n ≤ 1125899906842624) (hto : to = own) (ho : life < peer) : Calls Try.prog 16 #[.pointer (some ⟨g, 0, none⟩), .int .u64 (life : Int), .int .u64 (to : Int), .int .u64 (n : Int)] w fun e w' => e = .returned (.int .i64 22) ∧ SenR w' g own peer gr us ∧ Turned (fun b => b = g) w w' := by
  have ht : to ≤ 1125899906842624 := by have := h.high; omega
  subst hto
  have d1 : decide ((1125899906842624 : Int) < (to : Int)) = false := decide_eq_false (by omega)
  have d2 : decide ((1125899906842624 : Int) < (n : Int)) = false := decide_eq_false (by omega)
  have c0 := h.c0
  have HO := Lib.hid ho
  clear ht hn ho
  go_enter Try.func16, Try.ntmps16
  go_wp2_with fail
  refine (smade h).mono ?_
  rintro e w1 ⟨rfl, rfl⟩
  go_wp2_with fail
  refine (life_any life true hl.symm _).mono ?_
  rintro e w1 ⟨rfl, rfl⟩
  go_wp2_with fail
  refine (watch_any _ _).mono ?_
  rintro e wx ⟨rfl, q1, q2⟩
  have h2 := h.keep q2
  have C := Lib.hid (look_less g 1 life peer _ wx q1 h2.c1 HO.out)
  have K2 := Lib.hid q2
  have H2 := Lib.hid h2
  clear q1 q2 h2
  go_wp2_with fail
  refine C.out.mono ?_
  rintro e wy ⟨rfl, rfl⟩
  go_wp2_with fail
  go_ret
  exact ⟨rfl, H2.out, Turned.of_keep K2.out⟩
set_option maxHeartbeats 2000000 in
theorem take_later (life to n : Nat) (h : SenR w g own peer gr us) (hl : okL life = true) (hn : n ≤ 1125899906842624) (hto : to = own) (ho : peer < life) : Calls Try.prog 16 #[.pointer (some ⟨g, 0, none⟩), .int .u64 (life : Int), .int .u64 (to : Int), .int .u64 (n : Int)] w fun e w' => e = .returned (.int .i64 0) ∧ SenR w' g own life n us ∧ Turned (fun b => b = g) w w' := by
  have ht : to ≤ 1125899906842624 := by have := h.high; omega
  have hlm : life ≤ 1125899906842624 := by have := of_decide_eq_true hl; omega
  subst hto
  have d1 : decide ((1125899906842624 : Int) < (to : Int)) = false := decide_eq_false (by omega)
  have d2 : decide ((1125899906842624 : Int) < (n : Int)) = false := decide_eq_false (by omega)
  have c0 := h.c0
  have eL : true = decide (peer < life) := (decide_eq_true (by omega)).symm
  have hle : peer ≤ life := by omega
  have HE := Lib.hid eL
  have HLE := Lib.hid hle
  have HN := Lib.hid hn
  have HLM := Lib.hid hlm
  clear ht hn ho hle eL hlm
  go_enter Try.func16, Try.ntmps16
  go_wp2_with fail
  refine (smade h).mono ?_
  rintro e w1 ⟨rfl, rfl⟩
  go_wp2_with fail
  refine (life_any life true hl.symm _).mono ?_
  rintro e w1 ⟨rfl, rfl⟩
  go_wp2_with fail
  refine (watch_any _ _).mono ?_
  rintro e wx ⟨rfl, q1, q2⟩
  have h2 := h.keep q2
  have C := Lib.hid (look_more g 1 life peer _ true HE.out wx q1 h2.c1 h2.f1 HLE.out)
  have h3 := h2.peers HLM.out
  have k3 : Turned (fun b => b = g) _ (wx.setCell ⟨g, 1, none⟩ (.int .u64 (life : Int))) := (Turned.of_keep (F := fun b => b = g) q2).trans (Turned.set (F := fun b => b = g) _ ⟨g, 1, none⟩ _ rfl) fun i e => Or.inl e
  obtain ⟨wy, hwy⟩ : ∃ x, wx.setCell ⟨g, 1, none⟩ (.int .u64 (life : Int)) = x := ⟨_, rfl⟩
  rw [hwy] at h3 k3
  have HW := Lib.hid hwy
  have K3 := Lib.hid k3
  have H3 := Lib.hid h3
  clear q1 q2 h2 h3 k3 hwy
  go_wp2_with fail
  refine (C.out.mono fun e w' q => (⟨q.1, q.2.trans HW.out⟩ : e = _ ∧ w' = wy)).mono ?_
  rintro e wz ⟨rfl, rfl⟩
  have c2 := H3.out.c2
  have f2 := H3.out.f2
  go_wp2_with fail
  refine (withGranted_any gr us n _).mono ?_
  rintro e wv ⟨rfl, rfl⟩
  have h4 := Lib.hid (H3.out.counts (a := n) (b := us) HN.out H3.out.hu)
  have k4 := Lib.hid (K3.out.trans (Turned.set (F := fun b => b = g) wv ⟨g, 2, none⟩ (.complex .f64 (fl n) (fl us)) rfl) fun i e => Or.inl e)
  go_wp2_with fail
  go_ret
  exact ⟨rfl, h4.out, k4.out⟩
set_option maxHeartbeats 2000000 in
theorem take_more (life to n : Nat) (h : SenR w g own peer gr us) (hl : okL life = true) (hn : n ≤ 1125899906842624) (hto : to = own) (ho : peer = life) (hm : gr < n) : Calls Try.prog 16 #[.pointer (some ⟨g, 0, none⟩), .int .u64 (life : Int), .int .u64 (to : Int), .int .u64 (n : Int)] w fun e w' => e = .returned (.int .i64 0) ∧ SenR w' g own life n us ∧ Turned (fun b => b = g) w w' := by
  have ht : to ≤ 1125899906842624 := by have := h.high; omega
  have hlm : life ≤ 1125899906842624 := by have := of_decide_eq_true hl; omega
  subst hto
  have d1 : decide ((1125899906842624 : Int) < (to : Int)) = false := decide_eq_false (by omega)
  have d2 : decide ((1125899906842624 : Int) < (n : Int)) = false := decide_eq_false (by omega)
  have c0 := h.c0
  have d3 : decide ((gr : Int) < (n : Int)) = true := decide_eq_true (by omega)
  have d4 : decide (gr < n) = true := decide_eq_true (by omega)
  have eL : false = decide (peer < life) := (decide_eq_false (by omega)).symm
  have hle : peer ≤ life := by omega
  have HE := Lib.hid eL
  have HLE := Lib.hid hle
  have HN := Lib.hid hn
  have HLM := Lib.hid hlm
  clear ht hn ho hle eL hlm hm
  go_enter Try.func16, Try.ntmps16
  go_wp2_with fail
  refine (smade h).mono ?_
  rintro e w1 ⟨rfl, rfl⟩
  go_wp2_with fail
  refine (life_any life true hl.symm _).mono ?_
  rintro e w1 ⟨rfl, rfl⟩
  go_wp2_with fail
  refine (watch_any _ _).mono ?_
  rintro e wx ⟨rfl, q1, q2⟩
  have h2 := h.keep q2
  have C := Lib.hid (look_more g 1 life peer _ false HE.out wx q1 h2.c1 h2.f1 HLE.out)
  have h3 := h2.peers HLM.out
  have k3 : Turned (fun b => b = g) _ (wx.setCell ⟨g, 1, none⟩ (.int .u64 (life : Int))) := (Turned.of_keep (F := fun b => b = g) q2).trans (Turned.set (F := fun b => b = g) _ ⟨g, 1, none⟩ _ rfl) fun i e => Or.inl e
  obtain ⟨wy, hwy⟩ : ∃ x, wx.setCell ⟨g, 1, none⟩ (.int .u64 (life : Int)) = x := ⟨_, rfl⟩
  rw [hwy] at h3 k3
  have HW := Lib.hid hwy
  have K3 := Lib.hid k3
  have H3 := Lib.hid h3
  clear q1 q2 h2 h3 k3 hwy
  go_wp2_with fail
  refine (C.out.mono fun e w' q => (⟨q.1, q.2.trans HW.out⟩ : e = _ ∧ w' = wy)).mono ?_
  rintro e wz ⟨rfl, rfl⟩
  have c2 := H3.out.c2
  have f2 := H3.out.f2
  go_wp2_with fail
  refine (granted_any gr us H3.out.hg _).mono ?_
  rintro e wv ⟨rfl, rfl⟩
  go_wp2_with fail
  refine (withGranted_any gr us n _).mono ?_
  rintro e wv ⟨rfl, rfl⟩
  have h4 := Lib.hid (H3.out.counts (a := n) (b := us) HN.out H3.out.hu)
  have k4 := Lib.hid (K3.out.trans (Turned.set (F := fun b => b = g) wv ⟨g, 2, none⟩ (.complex .f64 (fl n) (fl us)) rfl) fun i e => Or.inl e)
  go_wp2_with fail
  go_ret
  exact ⟨rfl, h4.out, k4.out⟩
set_option maxHeartbeats 2000000 in
theorem take_less (life to n : Nat) (h : SenR w g own peer gr us) (hl : okL life = true) (hn : n ≤ 1125899906842624) (hto : to = own) (ho : peer = life) (hm : n ≤ gr) : Calls Try.prog 16 #[.pointer (some ⟨g, 0, none⟩), .int .u64 (life : Int), .int .u64 (to : Int), .int .u64 (n : Int)] w fun e w' => e = .returned (.int .i64 0) ∧ SenR w' g own life gr us ∧ Turned (fun b => b = g) w w' := by
  have ht : to ≤ 1125899906842624 := by have := h.high; omega
  have hlm : life ≤ 1125899906842624 := by have := of_decide_eq_true hl; omega
  subst hto
  have d1 : decide ((1125899906842624 : Int) < (to : Int)) = false := decide_eq_false (by omega)
  have d2 : decide ((1125899906842624 : Int) < (n : Int)) = false := decide_eq_false (by omega)
  have c0 := h.c0
  have d3 : decide ((gr : Int) < (n : Int)) = false := decide_eq_false (by omega)
  have d4 : decide (gr < n) = false := decide_eq_false (by omega)
  have eL : false = decide (peer < life) := (decide_eq_false (by omega)).symm
  have hle : peer ≤ life := by omega
  have HE := Lib.hid eL
  have HLE := Lib.hid hle
  have HN := Lib.hid hn
  have HLM := Lib.hid hlm
  clear ht hn ho hle eL hlm hm
  go_enter Try.func16, Try.ntmps16
  go_wp2_with fail
  refine (smade h).mono ?_
  rintro e w1 ⟨rfl, rfl⟩
  go_wp2_with fail
  refine (life_any life true hl.symm _).mono ?_
  rintro e w1 ⟨rfl, rfl⟩
  go_wp2_with fail
  refine (watch_any _ _).mono ?_
  rintro e wx ⟨rfl, q1, q2⟩
  have h2 := h.keep q2
  have C := Lib.hid (look_more g 1 life peer _ false HE.out wx q1 h2.c1 h2.f1 HLE.out)
  have h3 := h2.peers HLM.out
  have k3 : Turned (fun b => b = g) _ (wx.setCell ⟨g, 1, none⟩ (.int .u64 (life : Int))) := (Turned.of_keep (F := fun b => b = g) q2).trans (Turned.set (F := fun b => b = g) _ ⟨g, 1, none⟩ _ rfl) fun i e => Or.inl e
  obtain ⟨wy, hwy⟩ : ∃ x, wx.setCell ⟨g, 1, none⟩ (.int .u64 (life : Int)) = x := ⟨_, rfl⟩
  rw [hwy] at h3 k3
  have HW := Lib.hid hwy
  have K3 := Lib.hid k3
  have H3 := Lib.hid h3
  clear q1 q2 h2 h3 k3 hwy
  go_wp2_with fail
  refine (C.out.mono fun e w' q => (⟨q.1, q.2.trans HW.out⟩ : e = _ ∧ w' = wy)).mono ?_
  rintro e wz ⟨rfl, rfl⟩
  have c2 := H3.out.c2
  have f2 := H3.out.f2
  go_wp2_with fail
  refine (granted_any gr us H3.out.hg _).mono ?_
  rintro e wv ⟨rfl, rfl⟩
  go_wp2_with fail
  go_ret
  exact ⟨rfl, H3.out, K3.out⟩
theorem stake (life to n : Nat) (h : SenR w g own peer gr us) : Calls Try.prog 16 #[.pointer (some ⟨g, 0, none⟩), .int .u64 (life : Int), .int .u64 (to : Int), .int .u64 (n : Int)] w fun e w' => e = .returned (.int .i64 (takeE own peer life to n)) ∧ SenR w' g own (takeP own peer life to n) (takeG own peer gr life to n) us ∧ Turned (fun b => b = g) w w' := by
  by_cases h1 : okL life = false ∨ 1125899906842624 < to ∨ 1125899906842624 < n
  · have e : takeE own peer life to n = 1 := if_pos h1
    rw [takeP, takeG, e, if_neg (by decide), if_neg (fun h => absurd h.1 (by decide))]
    exact take_arg life to n h h1
  · have hl : okL life = true := by
      cases hh : okL life with
      | true => rfl
      | false => exact absurd (Or.inl hh) h1
    have ht : to ≤ 1125899906842624 := by omega
    have hn : n ≤ 1125899906842624 := by omega
    by_cases h2 : to = own
    · by_cases h3 : life < peer
      · have e : takeE own peer life to n = 22 := by unfold takeE; rw [if_neg h1, if_pos (Or.inr h3)]
        rw [takeP, takeG, e, if_neg (by decide), if_neg (fun h => absurd h.1 (by decide))]
        exact take_late life to n h hl hn h2 h3
      · have e : takeE own peer life to n = 0 := by unfold takeE; rw [if_neg h1, if_neg (by omega)]
        rw [takeP, takeG, e, if_pos rfl]
        by_cases h4 : peer < life
        · rw [if_pos ⟨rfl, Or.inl h4⟩]; exact take_later life to n h hl hn h2 h4
        · have h5 : peer = life := by omega
          by_cases h6 : gr < n
          · rw [if_pos ⟨rfl, Or.inr h6⟩]; exact take_more life to n h hl hn h2 h5 h6
          · rw [if_neg (by omega)]; exact take_less life to n h hl hn h2 h5 (by omega)
    · have e : takeE own peer life to n = 22 := by unfold takeE; rw [if_neg h1, if_pos (Or.inl h2)]
      rw [takeP, takeG, e, if_neg (by decide), if_neg (fun h => absurd h.1 (by decide))]
      exact take_to life to n h hl ht hn h2
end
end Go.Proofs.Ytgogafhpchfinaa
/- The landed credit: Saw, Grant and both New, each in one contract. -/
namespace Go.Proofs.Ytgogafhpchfinaa
open Go.RowKit
set_option linter.unusedVariables false
set_option linter.unusedSimpArgs false
section
variable {g own peer gr us pl sn : Nat} {w : World}
set_option maxHeartbeats 2000000 in
theorem saw_arg (life n : Nat) (h : RecR w g pl peer gr sn) (hb : okL life = false ∨ 1125899906842624 < n) : Calls Try.prog 18 #[.pointer (some ⟨g, 0, none⟩), .int .u64 (life : Int), .int .u64 (n : Int)] w fun e w' => e = .returned (.int .i64 1) ∧ RecR w' g pl peer gr sn ∧ Turned (fun b => b = g) w w' := by
  cases hl : okL life with
  | false =>
    clear hb
    go_enter Try.func18, Try.ntmps18
    go_wp2_with fail
    refine (rmade h).mono ?_
    rintro e w1 ⟨rfl, rfl⟩
    go_wp2_with fail
    refine (life_any life false hl.symm _).mono ?_
    rintro e w1 ⟨rfl, rfl⟩
    go_wp2_with fail
    go_ret
    exact ⟨rfl, h, Turned.refl _ _⟩
  | true =>
    have hn : 1125899906842624 < n := by
      rcases hb with hb | hb
      · rw [hl] at hb; cases hb
      · exact hb
    have d2 : decide ((1125899906842624 : Int) < (n : Int)) = true := decide_eq_true (by omega)
    clear hb hn
    go_enter Try.func18, Try.ntmps18
    go_wp2_with fail
    refine (rmade h).mono ?_
    rintro e w1 ⟨rfl, rfl⟩
    go_wp2_with fail
    refine (life_any life true hl.symm _).mono ?_
    rintro e w1 ⟨rfl, rfl⟩
    go_wp2_with fail
    go_ret
    exact ⟨rfl, h, Turned.refl _ _⟩
set_option maxHeartbeats 2000000 in
theorem saw_late (life n : Nat) (h : RecR w g pl peer gr sn) (hl : okL life = true) (hn : n ≤ 1125899906842624) (ho : life < peer) : Calls Try.prog 18 #[.pointer (some ⟨g, 0, none⟩), .int .u64 (life : Int), .int .u64 (n : Int)] w fun e w' => e = .returned (.int .i64 22) ∧ RecR w' g pl peer gr sn ∧ Turned (fun b => b = g) w w' := by
  have d2 : decide ((1125899906842624 : Int) < (n : Int)) = false := decide_eq_false (by omega)
  have HO := Lib.hid ho
  clear hn ho
  go_enter Try.func18, Try.ntmps18
  go_wp2_with fail
  refine (rmade h).mono ?_
  rintro e w1 ⟨rfl, rfl⟩
  go_wp2_with fail
  refine (life_any life true hl.symm _).mono ?_
  rintro e w1 ⟨rfl, rfl⟩
  go_wp2_with fail
  refine (watch_any _ _).mono ?_
  rintro e wx ⟨rfl, q1, q2⟩
  have h2 := h.keep q2
  have C := Lib.hid (look_less g 1 life peer _ wx q1 h2.c1 HO.out)
  have K2 := Lib.hid q2
  have H2 := Lib.hid h2
  clear q1 q2 h2
  go_wp2_with fail
  refine C.out.mono ?_
  rintro e wy ⟨rfl, rfl⟩
  go_wp2_with fail
  go_ret
  exact ⟨rfl, H2.out, Turned.of_keep K2.out⟩
set_option maxHeartbeats 2000000 in
theorem saw_later (life n : Nat) (h : RecR w g pl peer gr sn) (hl : okL life = true) (hn : n ≤ 1125899906842624) (ho : peer < life) : Calls Try.prog 18 #[.pointer (some ⟨g, 0, none⟩), .int .u64 (life : Int), .int .u64 (n : Int)] w fun e w' => e = .returned (.int .i64 0) ∧ RecR w' g pl life 0 n ∧ Turned (fun b => b = g) w w' := by
  have hlm : life ≤ 1125899906842624 := by have := of_decide_eq_true hl; omega
  have d2 : decide ((1125899906842624 : Int) < (n : Int)) = false := decide_eq_false (by omega)
  have eL : true = decide (peer < life) := (decide_eq_true (by omega)).symm
  have hle : peer ≤ life := by omega
  have HE := Lib.hid eL
  have HLE := Lib.hid hle
  have HN := Lib.hid hn
  have HLM := Lib.hid hlm
  obtain ⟨m, hm⟩ : ∃ m, max n 0 = m := ⟨_, rfl⟩
  have hmx := run_most #[22, 22] 22 n 0 m hm
  have hmm : m ≤ 1125899906842624 := by have := h.hs; omega
  have HMM := Lib.hid hmm
  obtain rfl : n = m := by omega
  have hz : (fl 0 : Nat) = 0 := fl_zero
  clear hmm hn ho hle eL hlm hm
  go_enter Try.func18, Try.ntmps18
  go_wp2_with fail
  refine (rmade h).mono ?_
  rintro e w1 ⟨rfl, rfl⟩
  go_wp2_with fail
  refine (life_any life true hl.symm _).mono ?_
  rintro e w1 ⟨rfl, rfl⟩
  go_wp2_with fail
  refine (watch_any _ _).mono ?_
  rintro e wx ⟨rfl, q1, q2⟩
  have h2 := h.keep q2
  have C := Lib.hid (look_more g 1 life peer _ true HE.out wx q1 h2.c1 h2.f1 HLE.out)
  have h3 := h2.peers HLM.out
  have k3 : Turned (fun b => b = g) _ (wx.setCell ⟨g, 1, none⟩ (.int .u64 (life : Int))) := (Turned.of_keep (F := fun b => b = g) q2).trans (Turned.set (F := fun b => b = g) _ ⟨g, 1, none⟩ _ rfl) fun i e => Or.inl e
  obtain ⟨wy, hwy⟩ : ∃ x, wx.setCell ⟨g, 1, none⟩ (.int .u64 (life : Int)) = x := ⟨_, rfl⟩
  rw [hwy] at h3 k3
  have HW := Lib.hid hwy
  have K3 := Lib.hid k3
  have H3 := Lib.hid h3
  clear q1 q2 h2 h3 k3 hwy
  go_wp2_with fail
  refine (C.out.mono fun e w' q => (⟨q.1, q.2.trans HW.out⟩ : e = _ ∧ w' = wy)).mono ?_
  rintro e wz ⟨rfl, rfl⟩
  have cz := H3.out.c2
  have fz := H3.out.f2
  have h4 := H3.out.counts (a := 0) (b := 0) (by omega) (by omega)
  have k4 := K3.out.trans (Turned.set (F := fun b => b = g) wz ⟨g, 2, none⟩ (.complex .f64 (fl 0) (fl 0)) rfl) fun i e => Or.inl e
  rw [hz] at h4 k4
  obtain ⟨wu, hwu⟩ : ∃ x, wz.setCell ⟨g, 2, none⟩ (.complex .f64 0 0) = x := ⟨_, rfl⟩
  rw [hwu] at h4 k4
  have H3 := Lib.hid h4
  have K3 := Lib.hid k4
  clear h4 k4
  have hD : RecR wu.drew g pl life 0 0 := H3.out.keep (Keep.refl wu).drew
  have c2 := hD.c2
  have f2 := hD.f2
  have h5 := hD.counts (a := 0) (b := n) (by omega) HMM.out
  have CS := reached_any 0 0 hD.hs wu.drew
  have CR := withReached_any 0 0 n wu.drew
  have k5 : Turned (fun b => b = g) _ (wu.drew.setCell ⟨g, 2, none⟩ (.complex .f64 (fl 0) (fl n))) := ((K3.out.trans (Turned.of_keep (F := fun b => b = g) (Keep.refl _).drew) fun i e => Or.inl e).trans (Turned.set (F := fun b => b = g) _ ⟨g, 2, none⟩ _ rfl) fun i e => Or.inl e)
  rw [hz] at c2 CS CR k5 h5
  have H5 := Lib.hid h5
  have K5 := Lib.hid k5
  have CS := Lib.hid CS
  have CR := Lib.hid CR
  clear h5 k5 hD
  go_wp2_with fail
  clear hwu
  refine wp_region_still_tail (w := wu) 15 (by kernel_rfl) (by kernel_rfl) ?_
  simp only [List.take_succ_cons, List.take_zero, List.drop_succ_cons, List.drop_zero]
  change wpStill _ _ (World.drew wu) _ _ _
  iterate 10 still_step
  still_call CS.out
  iterate 1 still_step
  still_call CR.out
  iterate 2 still_step
  refine wpStill_nil ?_
  change wpList _ _ _ _ _ (World.drew wu)
  go_wp2_with fail
  go_ret
  exact ⟨rfl, H5.out, K5.out⟩
set_option maxHeartbeats 2000000 in
theorem saw_same (life n : Nat) (h : RecR w g pl peer gr sn) (hl : okL life = true) (hn : n ≤ 1125899906842624) (ho : peer = life) : Calls Try.prog 18 #[.pointer (some ⟨g, 0, none⟩), .int .u64 (life : Int), .int .u64 (n : Int)] w fun e w' => e = .returned (.int .i64 0) ∧ RecR w' g pl life gr (max n sn) ∧ Turned (fun b => b = g) w w' := by
  have hlm : life ≤ 1125899906842624 := by have := of_decide_eq_true hl; omega
  have d2 : decide ((1125899906842624 : Int) < (n : Int)) = false := decide_eq_false (by omega)
  have eL : false = decide (peer < life) := (decide_eq_false (by omega)).symm
  have hle : peer ≤ life := by omega
  have HE := Lib.hid eL
  have HLE := Lib.hid hle
  have HN := Lib.hid hn
  have HLM := Lib.hid hlm
  obtain ⟨m, hm⟩ : ∃ m, max n sn = m := ⟨_, rfl⟩
  have hmx := run_most #[22, 22] 22 n sn m hm
  have hmm : m ≤ 1125899906842624 := by have := h.hs; omega
  have HMM := Lib.hid hmm
  rw [hm]
  clear hmm hn ho hle eL hlm hm
  go_enter Try.func18, Try.ntmps18
  go_wp2_with fail
  refine (rmade h).mono ?_
  rintro e w1 ⟨rfl, rfl⟩
  go_wp2_with fail
  refine (life_any life true hl.symm _).mono ?_
  rintro e w1 ⟨rfl, rfl⟩
  go_wp2_with fail
  refine (watch_any _ _).mono ?_
  rintro e wx ⟨rfl, q1, q2⟩
  have h2 := h.keep q2
  have C := Lib.hid (look_more g 1 life peer _ false HE.out wx q1 h2.c1 h2.f1 HLE.out)
  have h3 := h2.peers HLM.out
  have k3 : Turned (fun b => b = g) _ (wx.setCell ⟨g, 1, none⟩ (.int .u64 (life : Int))) := (Turned.of_keep (F := fun b => b = g) q2).trans (Turned.set (F := fun b => b = g) _ ⟨g, 1, none⟩ _ rfl) fun i e => Or.inl e
  obtain ⟨wy, hwy⟩ : ∃ x, wx.setCell ⟨g, 1, none⟩ (.int .u64 (life : Int)) = x := ⟨_, rfl⟩
  rw [hwy] at h3 k3
  have HW := Lib.hid hwy
  have K3 := Lib.hid k3
  have H3 := Lib.hid h3
  clear q1 q2 h2 h3 k3 hwy
  go_wp2_with fail
  refine (C.out.mono fun e w' q => (⟨q.1, q.2.trans HW.out⟩ : e = _ ∧ w' = wy)).mono ?_
  rintro e wz ⟨rfl, rfl⟩
  have hD : RecR wz.drew g pl life gr sn := H3.out.keep (Keep.refl wz).drew
  have c2 := hD.c2
  have f2 := hD.f2
  have h5 := hD.counts (a := gr) (b := m) (by exact h.hg) HMM.out
  have CS := reached_any gr sn hD.hs wz.drew
  have CR := withReached_any gr sn m wz.drew
  have k5 : Turned (fun b => b = g) _ (wz.drew.setCell ⟨g, 2, none⟩ (.complex .f64 (fl gr) (fl m))) := ((K3.out.trans (Turned.of_keep (F := fun b => b = g) (Keep.refl _).drew) fun i e => Or.inl e).trans (Turned.set (F := fun b => b = g) _ ⟨g, 2, none⟩ _ rfl) fun i e => Or.inl e)
  have H5 := Lib.hid h5
  have K5 := Lib.hid k5
  have CS := Lib.hid CS
  have CR := Lib.hid CR
  clear h5 k5 hD
  go_wp2_with fail
  refine wp_region_still_tail (w := wz) 15 (by kernel_rfl) (by kernel_rfl) ?_
  simp only [List.take_succ_cons, List.take_zero, List.drop_succ_cons, List.drop_zero]
  change wpStill _ _ (World.drew wz) _ _ _
  iterate 10 still_step
  still_call CS.out
  iterate 1 still_step
  still_call CR.out
  iterate 2 still_step
  refine wpStill_nil ?_
  change wpList _ _ _ _ _ (World.drew wz)
  go_wp2_with fail
  go_ret
  exact ⟨rfl, H5.out, K5.out⟩
theorem rsaw (life n : Nat) (h : RecR w g pl peer gr sn) : Calls Try.prog 18 #[.pointer (some ⟨g, 0, none⟩), .int .u64 (life : Int), .int .u64 (n : Int)] w fun e w' => e = .returned (.int .i64 (sawE peer life n)) ∧ RecR w' g pl (sawP peer life n) (sawG peer gr life n) (sawS peer sn life n) ∧ Turned (fun b => b = g) w w' := by
  by_cases h1 : okL life = false ∨ 1125899906842624 < n
  · have e : sawE peer life n = 1 := if_pos h1
    rw [sawP, sawG, sawS, e, if_neg (by decide), if_neg (fun h => absurd h.1 (by decide)), if_neg (by decide)]
    exact saw_arg life n h h1
  · have hl : okL life = true := by
      cases hh : okL life with
      | true => rfl
      | false => exact absurd (Or.inl hh) h1
    have hn : n ≤ 1125899906842624 := by omega
    by_cases h3 : life < peer
    · have e : sawE peer life n = 22 := by unfold sawE; rw [if_neg h1, if_pos h3]
      rw [sawP, sawG, sawS, e, if_neg (by decide), if_neg (fun h => absurd h.1 (by decide)), if_neg (by decide)]
      exact saw_late life n h hl hn h3
    · have e : sawE peer life n = 0 := by unfold sawE; rw [if_neg h1, if_neg h3]
      rw [sawP, sawG, sawS, e, if_pos rfl, if_pos rfl]
      by_cases h4 : peer < life
      · rw [if_pos ⟨rfl, h4⟩, if_pos h4]; exact saw_later life n h hl hn h4
      · rw [if_neg (fun h => h4 h.2), if_neg h4]; exact saw_same life n h hl hn (by omega)
set_option maxHeartbeats 2000000 in
theorem grant_arg (f : Int) (h : RecR w g pl peer gr sn) (hb : f < 0 ∨ (pl : Int) < f) : Calls Try.prog 20 #[.pointer (some ⟨g, 0, none⟩), .int .i64 f] w fun e w' => e = .returned (.tuple #[.int .u64 (0 : Nat), .int .i64 1]) ∧ RecR w' g pl peer gr sn ∧ Turned (fun b => b = g) w w' := by
  have c0 := h.c0
  by_cases h1 : f < 0
  · have d1 : decide (f < 0) = true := decide_eq_true h1
    clear hb
    go_enter Try.func20, Try.ntmps20
    go_wp2_with fail
    refine (rmade h).mono ?_
    rintro e w1 ⟨rfl, rfl⟩
    go_wp2_with fail
    go_ret2
    exact ⟨rfl, h, Turned.refl _ _⟩
  · have d1 : decide (f < 0) = false := decide_eq_false h1
    have d2 : decide ((pl : Int) < f) = true := decide_eq_true (by omega)
    clear hb h1
    go_enter Try.func20, Try.ntmps20
    go_wp2_with fail
    refine (rmade h).mono ?_
    rintro e w1 ⟨rfl, rfl⟩
    go_wp2_with fail
    go_ret2
    exact ⟨rfl, h, Turned.refl _ _⟩
set_option maxHeartbeats 2000000 in
theorem grant_in (k : Nat) (h : RecR w g pl peer gr sn) (hk : k ≤ pl) : Calls Try.prog 20 #[.pointer (some ⟨g, 0, none⟩), .int .i64 (k : Int)] w fun e w' => e = .returned (.tuple #[.int .u64 (max (min (sn + k) 1125899906842624) gr : Nat), .int .i64 0]) ∧ RecR w' g pl peer (max (min (sn + k) 1125899906842624) gr) sn ∧ Turned (fun b => b = g) w w' := by
  have c0 := h.c0
  have hpl := h.high
  have hsn := h.hs
  have hgr := h.hg
  have d1 : decide ((k : Int) < 0) = false := decide_eq_false (by omega)
  have d2 : decide ((pl : Int) < (k : Int)) = false := decide_eq_false (by omega)
  have d3 : decide (pl < k) = false := decide_eq_false (by omega)
  obtain ⟨a, ha⟩ : ∃ a, sn + k = a := ⟨_, rfl⟩
  obtain ⟨r, hr⟩ : ∃ r, min a 1125899906842624 = r := ⟨_, rfl⟩
  obtain ⟨m, hm⟩ : ∃ m, max r gr = m := ⟨_, rfl⟩
  have e1 : IntKind.u64.wrap (k : Int) = (k : Int) := IntWalk.u64_in _ (by omega)
  have e2 : IntKind.u64.wrap ((sn : Int) + (k : Int)) = (a : Int) := by rw [IntWalk.u64_in _ (by omega)]; omega
  have hmn := run_least64 #[22, 22] 22 a r hr
  have hmx := run_most #[22, 22] 22 r gr m hm
  rw [ha, hr, hm]
  have hmm : m ≤ 1125899906842624 := by omega
  have cs := h.c2
  have hD : RecR w.drew g pl peer gr sn := h.keep (Keep.refl w).drew
  have c2 := hD.c2
  have f2 := hD.f2
  have h5 := hD.counts (a := m) (b := sn) hmm hsn
  have k5 : Turned (fun b => b = g) w (w.drew.setCell ⟨g, 2, none⟩ (.complex .f64 (fl m) (fl sn))) := (Turned.of_keep (F := fun b => b = g) (Keep.refl _).drew).trans (Turned.set (F := fun b => b = g) _ ⟨g, 2, none⟩ _ rfl) fun i e => Or.inl e
  have CS := Lib.hid (granted_any gr sn hgr w.drew)
  have CR := Lib.hid (withGranted_any gr sn m w.drew)
  have C6 := Lib.hid (granted_any m sn hmm (w.drew.setCell ⟨g, 2, none⟩ (.complex .f64 (fl m) (fl sn))))
  have H5 := Lib.hid h5
  have K5 := Lib.hid k5
  have HS := Lib.hid hsn
  clear hk ha hr hm hmm h5 k5 hD hsn hgr hpl
  go_enter Try.func20, Try.ntmps20
  go_wp2_with fail
  refine (rmade h).mono ?_
  rintro e w1 ⟨rfl, rfl⟩
  go_wp2_with fail
  refine (reached_any gr sn HS.out _).mono ?_
  rintro e w1 ⟨rfl, rfl⟩
  go_wp2_with fail
  refine wp_region_still_tail (w := w1) 15 (by kernel_rfl) (by kernel_rfl) ?_
  simp only [List.take_succ_cons, List.take_zero, List.drop_succ_cons, List.drop_zero]
  change wpStill _ _ (World.drew w1) _ _ _
  iterate 10 still_step
  still_call CS.out
  iterate 1 still_step
  still_call CR.out
  iterate 2 still_step
  refine wpStill_nil ?_
  change wpList _ _ _ _ _ (World.drew w1)
  go_wp2_with fail
  refine C6.out.mono ?_
  rintro e w2 ⟨rfl, rfl⟩
  go_wp2_with fail
  go_ret2
  exact ⟨rfl, H5.out, K5.out⟩
theorem rgrant (f : Int) (h : RecR w g pl peer gr sn) : Calls Try.prog 20 #[.pointer (some ⟨g, 0, none⟩), .int .i64 f] w fun e w' => e = .returned (.tuple #[.int .u64 (grV pl gr sn f : Nat), .int .i64 (grE pl f)]) ∧ RecR w' g pl peer (grG pl gr sn f) sn ∧ Turned (fun b => b = g) w w' := by
  by_cases h1 : f < 0 ∨ (pl : Int) < f
  · have e : grE pl f = 1 := if_pos h1
    rw [grV, grG, e, if_neg (by decide), if_neg (by decide)]
    exact grant_arg f h h1
  · have e : grE pl f = 0 := if_neg h1
    obtain ⟨k, rfl⟩ := Int.eq_ofNat_of_zero_le (show 0 ≤ f by omega)
    rw [grV, grG, e, if_pos rfl, if_pos rfl]
    exact grant_in k h (by omega)
theorem snew_in (life : Nat) (h : okL life = true) (w : World) : Calls Try.prog 9 #[.int .u64 (life : Int)] w fun e w' => e = .returned (.tuple #[.pointer (some ⟨w.heap.size, 0, none⟩), .int .i64 0]) ∧ SenR w' w.heap.size life 0 0 0 ∧ Keep w w' := by
  have hl := of_decide_eq_true h
  go_enter Try.func9, Try.ntmps9
  go_wp2_with fail
  refine (life_any life true h.symm _).mono ?_
  rintro e w1 ⟨rfl, rfl⟩
  go_wp2_with fail
  go_ret2
  exact ⟨rfl, ⟨by rw [fl_zero]; exact heap_alloc_new _ _, hl.1, hl.2, by omega, by omega, by omega⟩, (Keep.refl _).alloc _ _⟩
theorem rnew_in (k : Nat) (h1 : 1 ≤ k) (h2 : k ≤ 64) (w : World) : Calls Try.prog 11 #[.int .i64 (k : Int)] w fun e w' => e = .returned (.tuple #[.pointer (some ⟨w.heap.size, 0, none⟩), .int .i64 0]) ∧ RecR w' w.heap.size k 0 0 0 ∧ Keep w w' := by
  have b1 : decide ((k : Int) < 1) = false := decide_eq_false (by omega)
  have b2 : ¬ (64 : Int) < (k : Int) := by omega
  go_enter Try.func11, Try.ntmps11
  go_wp2_with fail
  go_ret2
  exact ⟨rfl, ⟨by rw [fl_zero]; exact heap_alloc_new _ _, h1, h2, by omega, by omega, by omega⟩, (Keep.refl w).alloc _ _⟩
end
end Go.Proofs.Ytgogafhpchfinaa
/- A sender's account and a receiver's side by side. -/
namespace Go.Proofs.Ytgogafhpchfinaa
open Go.RowKit
set_option linter.unusedVariables false
/-- Both accounts, in new memory. -/
structure Two (W w : World) (s r own sp sg su pl rp rg rs : Nat) : Prop where
  sen : SenR w s own sp sg su
  rcv : RecR w r pl rp rg rs
  apart : s ≠ r
  s0 : W.heap.size ≤ s
  r0 : W.heap.size ≤ r
  kp : Keep W w
section
variable {W w w' : World} {s r own sp sg su pl rp rg rs : Nat}
theorem Two.later (h : Two W w s r own sp sg su pl rp rg rs) (k : Keep w w') : Two W w' s r own sp sg su pl rp rg rs := ⟨h.sen.keep k, h.rcv.keep k, h.apart, h.s0, h.r0, h.kp.trans k⟩
theorem Two.aside (h : Two W w s r own sp sg su pl rp rg rs) {F : Nat → Prop} (k : Turned F w w') (h1 : ¬ F s) (h2 : ¬ F r) (h3 : ∀ i, F i → W.heap.size ≤ i) : Two W w' s r own sp sg su pl rp rg rs :=
  ⟨h.sen.turned k h1, h.rcv.turned k h2, h.apart, h.s0, h.r0, k.keep h.kp h3⟩
theorem Two.sends (h : Two W w s r own sp sg su pl rp rg rs) {p g u : Nat} (h2 : SenR w' s own p g u) (k : Turned (fun b => b = s) w w') : Two W w' s r own p g u pl rp rg rs :=
  ⟨h2, h.rcv.turned k (fun e => h.apart e.symm), h.apart, h.s0, h.r0, k.keep h.kp (fun i e => by rw [e]; exact h.s0)⟩
theorem Two.recs (h : Two W w s r own sp sg su pl rp rg rs) {p g u : Nat} (h2 : RecR w' r pl p g u) (k : Turned (fun b => b = r) w w') : Two W w' s r own sp sg su pl p g u :=
  ⟨h.sen.turned k h.apart, h2, h.apart, h.s0, h.r0, k.keep h.kp (fun i e => by rw [e]; exact h.r0)⟩
theorem two_take (h : Two W w s r own sp sg su pl rp rg rs) (life to n : Nat) {E : Int} {P G : Nat} (hE : takeE own sp life to n = E) (hP : takeP own sp life to n = P) (hG : takeG own sp sg life to n = G) {a b c : Int} (ha : a = (life : Int)) (hb : b = (to : Int)) (hc : c = (n : Int)) :
    Calls Try.prog 16 #[.pointer (some ⟨s, 0, none⟩), .int .u64 a, .int .u64 b, .int .u64 c] w fun e w' => e = .returned (.int .i64 E) ∧ Two W w' s r own P G su pl rp rg rs ∧ Turned (fun x => x = s) w w' := by
  subst ha; subst hb; subst hc; subst hE; subst hP; subst hG
  exact (stake life to n h.sen).mono fun e w' q => ⟨q.1, h.sends q.2.1 q.2.2, q.2.2⟩
theorem two_use (h : Two W w s r own sp sg su pl rp rg rs) {E : Int} {U V : Nat} (hE : useE sg su = E) (hU : useU sg su = U) (hV : useV sg su = V) :
    Calls Try.prog 14 #[.pointer (some ⟨s, 0, none⟩)] w fun e w' => e = .returned (.tuple #[.int .u64 (V : Int), .int .i64 E]) ∧ Two W w' s r own sp sg U pl rp rg rs ∧ Turned (fun x => x = s) w w' := by
  subst hE; subst hU; subst hV
  exact (suse h.sen).mono fun e w' q => ⟨q.1, h.sends q.2.1 q.2.2, q.2.2⟩
theorem two_saw (h : Two W w s r own sp sg su pl rp rg rs) (life n : Nat) {E : Int} {P G S : Nat} (hE : sawE rp life n = E) (hP : sawP rp life n = P) (hG : sawG rp rg life n = G) (hS : sawS rp rs life n = S) {a c : Int} (ha : a = (life : Int)) (hc : c = (n : Int)) :
    Calls Try.prog 18 #[.pointer (some ⟨r, 0, none⟩), .int .u64 a, .int .u64 c] w fun e w' => e = .returned (.int .i64 E) ∧ Two W w' s r own sp sg su pl P G S ∧ Turned (fun x => x = r) w w' := by
  subst ha; subst hc; subst hE; subst hP; subst hG; subst hS
  exact (rsaw life n h.rcv).mono fun e w' q => ⟨q.1, h.recs q.2.1 q.2.2, q.2.2⟩
theorem two_grant (h : Two W w s r own sp sg su pl rp rg rs) (f : Int) {E : Int} {V G : Nat} (hE : grE pl f = E) (hV : grV pl rg rs f = V) (hG : grG pl rg rs f = G) :
    Calls Try.prog 20 #[.pointer (some ⟨r, 0, none⟩), .int .i64 f] w fun e w' => e = .returned (.tuple #[.int .u64 (V : Int), .int .i64 E]) ∧ Two W w' s r own sp sg su pl rp G rs ∧ Turned (fun x => x = r) w w' := by
  subst hE; subst hV; subst hG
  exact (rgrant f h.rcv).mono fun e w' q => ⟨q.1, h.recs q.2.1 q.2.2, q.2.2⟩
theorem two_may (h : Two W w s r own sp sg su pl rp rg rs) {b : Bool} (hb : decide (su < sg) = b) : Calls Try.prog 22 #[.pointer (some ⟨s, 0, none⟩)] w fun e w' => e = .returned (.bool b) ∧ w' = w := by
  subst hb; exact smay h.sen
end
end Go.Proofs.Ytgogafhpchfinaa
/- The chapter's rows. -/
namespace Go.Proofs.Ytgogafhpchfinaa
open Go.RowKit
set_option linter.unusedVariables false
set_option linter.unusedSimpArgs false
theorem stake_eq {w : World} {g own peer gr us : Nat} (life to n : Nat) (h : SenR w g own peer gr us) {E : Int} {P G : Nat} (hE : takeE own peer life to n = E) (hP : takeP own peer life to n = P) (hG : takeG own peer gr life to n = G) :
    Calls Try.prog 16 #[.pointer (some ⟨g, 0, none⟩), .int .u64 (life : Int), .int .u64 (to : Int), .int .u64 (n : Int)] w fun e w' => e = .returned (.int .i64 E) ∧ SenR w' g own P G us ∧ Turned (fun b => b = g) w w' := by
  subst hE; subst hP; subst hG; exact stake life to n h
theorem suse_eq {w : World} {g own peer gr us : Nat} (h : SenR w g own peer gr us) {E : Int} {U V : Nat} (hE : useE gr us = E) (hU : useU gr us = U) (hV : useV gr us = V) :
    Calls Try.prog 14 #[.pointer (some ⟨g, 0, none⟩)] w fun e w' => e = .returned (.tuple #[.int .u64 (V : Int), .int .i64 E]) ∧ SenR w' g own peer gr U ∧ Turned (fun b => b = g) w w' := by
  subst hE; subst hU; subst hV; exact suse h
set_option maxRecDepth 100000 in
set_option maxHeartbeats 4000000 in
theorem cwakes (W : World) : Calls Try.prog 13 #[] W fun e w' => e = .returned (.bool true) ∧ Keep W w' := by
  go_enter Try.func13, Try.ntmps13
  go_wp2_with fail
  refine (snew_in 5 (by decide) _).mono ?_
  rintro e w0 ⟨rfl, h0, k0⟩
  obtain ⟨s, hs⟩ : ∃ s, W.heap.size = s := ⟨_, rfl⟩
  rw [hs] at h0
  simp only [hs]
  have H0 := Lib.hid h0
  have K0 := Lib.hid k0
  have HS := Lib.hid hs
  clear h0 k0 hs
  go_wp2_with fail
  refine (stake_eq 1 5 2 H0.out (E := 0) (P := 1) (G := 2) (by decide) (by decide) (by decide)).mono ?_
  rintro e w1 ⟨rfl, h1, k1⟩
  have H1 := Lib.hid h1
  have K1 : Hid (Keep W w1) := Lib.hid (k1.keep K0.out (fun i e => by rw [e]; exact Nat.le_of_eq HS.out))
  clear h1 k1
  go_wp2_with fail
  refine (suse_eq H1.out (E := 0) (U := 1) (V := 1) (by decide) (by decide) (by decide)).mono ?_
  rintro e w2 ⟨rfl, h2, k2⟩
  have H2 := Lib.hid h2
  have K2 : Hid (Keep W w2) := Lib.hid (k2.keep K1.out (fun i e => by rw [e]; exact Nat.le_of_eq HS.out))
  clear h2 k2
  go_wp2_with fail
  refine (suse_eq H2.out (E := 0) (U := 2) (V := 2) (by decide) (by decide) (by decide)).mono ?_
  rintro e w3 ⟨rfl, h3, k3⟩
  have H3 := Lib.hid h3
  have K3 : Hid (Keep W w3) := Lib.hid (k3.keep K2.out (fun i e => by rw [e]; exact Nat.le_of_eq HS.out))
  clear h3 k3
  go_wp2_with fail
  refine (suse_eq H3.out (E := 26) (U := 2) (V := 0) (by decide) (by decide) (by decide)).mono ?_
  rintro e w4 ⟨rfl, h4, k4⟩
  have H4 := Lib.hid h4
  have K4 : Hid (Keep W w4) := Lib.hid (k4.keep K3.out (fun i e => by rw [e]; exact Nat.le_of_eq HS.out))
  clear h4 k4
  go_wp2_with fail
  refine (stake_eq 1 4 9 H4.out (E := 22) (P := 1) (G := 2) (by decide) (by decide) (by decide)).mono ?_
  rintro e w5 ⟨rfl, h5, k5⟩
  have H5 := Lib.hid h5
  have K5 : Hid (Keep W w5) := Lib.hid (k5.keep K4.out (fun i e => by rw [e]; exact Nat.le_of_eq HS.out))
  clear h5 k5
  go_wp2_with fail
  refine (stake_eq 2 5 1 H5.out (E := 0) (P := 2) (G := 1) (by decide) (by decide) (by decide)).mono ?_
  rintro e w6 ⟨rfl, h6, k6⟩
  have H6 := Lib.hid h6
  have K6 : Hid (Keep W w6) := Lib.hid (k6.keep K5.out (fun i e => by rw [e]; exact Nat.le_of_eq HS.out))
  clear h6 k6
  go_wp2_with fail
  refine ((smay H6.out).mono fun e w' q => (⟨q.1, q.2⟩ : e = .returned (.bool false) ∧ w' = _)).mono ?_
  rintro e w ⟨rfl, rfl⟩
  go_wp2_with fail
  refine (stake_eq 2 5 3 H6.out (E := 0) (P := 2) (G := 3) (by decide) (by decide) (by decide)).mono ?_
  rintro e w7 ⟨rfl, h7, k7⟩
  have H7 := Lib.hid h7
  have K7 : Hid (Keep W w7) := Lib.hid (k7.keep K6.out (fun i e => by rw [e]; exact Nat.le_of_eq HS.out))
  clear h7 k7
  go_wp2_with fail
  refine (suse_eq H7.out (E := 0) (U := 3) (V := 3) (by decide) (by decide) (by decide)).mono ?_
  rintro e w8 ⟨rfl, h8, k8⟩
  have H8 := Lib.hid h8
  have K8 : Hid (Keep W w8) := Lib.hid (k8.keep K7.out (fun i e => by rw [e]; exact Nat.le_of_eq HS.out))
  clear h8 k8
  go_wp2_with fail
  refine (rnew_in 4 (by decide) (by decide) _).mono ?_
  rintro e v0 ⟨rfl, h0, k0⟩
  obtain ⟨r, hr⟩ : ∃ r, w8.heap.size = r := ⟨_, rfl⟩
  rw [hr] at h0
  simp only [hr]
  have T0 : Hid (Two W v0 s r 5 2 3 3 4 0 0 0) := Lib.hid ⟨H8.out.keep k0, h0, (by have := H8.out.lt; omega), Nat.le_of_eq HS.out, (by have := K8.out.size; omega), K8.out.trans k0⟩
  clear h0 k0 hr
  go_wp2_with fail
  refine (two_take T0.out 1 5 9 (E := 22) (P := 2) (G := 3) (by decide) (by decide) (by decide) rfl rfl rfl).mono ?_
  rintro e v1 ⟨rfl, t1, -⟩
  have T1 := Lib.hid t1
  clear t1
  go_wp2_with fail
  refine (two_saw T1.out 3 7 (E := 0) (P := 3) (G := 0) (S := 7) (by decide) (by decide) (by decide) (by decide) rfl rfl).mono ?_
  rintro e v2 ⟨rfl, t2, -⟩
  have T2 := Lib.hid t2
  clear t2
  go_wp2_with fail
  refine (two_grant T2.out 2 (E := 0) (V := 9) (G := 9) (by decide) (by decide) (by decide)).mono ?_
  rintro e v3 ⟨rfl, t3, -⟩
  have T3 := Lib.hid t3
  clear t3
  go_wp2_with fail
  refine (two_grant T3.out 0 (E := 0) (V := 9) (G := 9) (by decide) (by decide) (by decide)).mono ?_
  rintro e v4 ⟨rfl, t4, -⟩
  have T4 := Lib.hid t4
  clear t4
  go_wp2_with fail
  refine (two_saw T4.out 3 6 (E := 0) (P := 3) (G := 9) (S := 7) (by decide) (by decide) (by decide) (by decide) rfl rfl).mono ?_
  rintro e v5 ⟨rfl, t5, -⟩
  have T5 := Lib.hid t5
  clear t5
  go_wp2_with fail
  refine (two_saw T5.out 2 9 (E := 22) (P := 3) (G := 9) (S := 7) (by decide) (by decide) (by decide) (by decide) rfl rfl).mono ?_
  rintro e v6 ⟨rfl, t6, -⟩
  have T6 := Lib.hid t6
  clear t6
  go_wp2_with fail
  refine (two_saw T6.out 4 1 (E := 0) (P := 4) (G := 0) (S := 1) (by decide) (by decide) (by decide) (by decide) rfl rfl).mono ?_
  rintro e v7 ⟨rfl, t7, -⟩
  have T7 := Lib.hid t7
  clear t7
  go_wp2_with fail
  refine (two_grant T7.out 1 (E := 0) (V := 2) (G := 2) (by decide) (by decide) (by decide)).mono ?_
  rintro e v8 ⟨rfl, t8, -⟩
  have T8 := Lib.hid t8
  clear t8
  go_wp2_with fail
  refine (rlife T8.out.rcv).mono ?_
  rintro e w ⟨rfl, rfl⟩
  go_wp2_with fail
  refine (rseen T8.out.rcv).mono ?_
  rintro e w ⟨rfl, rfl⟩
  go_wp2_with fail
  go_ret
  exact ⟨rfl, T8.out.kp⟩
end Go.Proofs.Ytgogafhpchfinaa
/- The walk of CreditGoes. -/
namespace Go.Proofs.Ytgogafhpchfinaa
open Go.RowKit
set_option linter.unusedVariables false
set_option linter.unusedSimpArgs false
theorem okL_of {n : Nat} (h1 : 1 ≤ n) (h2 : n ≤ 1125899906842624) : okL n = true := decide_eq_true ⟨h1, h2⟩
theorem grE_in {pl k : Nat} (h : k ≤ pl) : grE pl (k : Int) = 0 := if_neg (by omega)
end Go.Proofs.Ytgogafhpchfinaa
