/- The landed queue's calls: cleared; of none; of a queue that New did not make. The contracts of layer 5's code. -/
import Derived.Test.YthgplballiibnaaQc4
namespace Go.Proofs.Ythgplballiibnaa
open Go.RowKit
set_option linter.unusedVariables false
set_option maxRecDepth 100000 in
theorem qclear_any (pl g : Nat) (F : Nat → Prop) (L : List (List Nat)) (w : World) (hq : QueR w F g pl L) :
    Calls Try.prog 17 #[.pointer (some ⟨g, 0, none⟩)] w fun e w' => e = .returned (.tuple #[]) ∧ ∃ F', QueR w' F' g pl [] ∧ (∀ b, F' b → F b ∨ w.heap.size ≤ b) ∧ Turned F w w' := by
  obtain ⟨fst, rg, hf, hrl, hb, hring⟩ := hq.ring
  obtain ⟨c0, _, _, _, _⟩ := qcells_at hb
  have hsz : (qcells pl fst L.length rg).size = (qcells pl 0 0 nil64).size := by simp [qcells, hrl, nil64]
  have HQ := Lib.hid hq
  have HH := Lib.hid hb
  clear hq hb hring hf hrl
  go_enter Try.func17, Try.ntmps17
  go_wp2_with fail
  refine (made_any pl g F _ _ HQ.out).mono ?_
  rintro e w' ⟨rfl, rfl⟩
  go_wp2_with (first | (refine wpList_buildTo rfl _ _ rfl _ rfl (qcells pl 0 0 nil64) (by kernel_rfl) ?_) | (refine wpList_store_rowTo rfl 52 (.tmp 10) (.tmp 9) rfl rfl g (qcells pl 0 0 nil64) rfl rfl 52 _ HH.out (by kernel_rfl) hsz (by kernel_rfl) ?_))
  go_wp2_with fail
  go_end0
  have h3 := setRow_heap w g _ (qcells pl 0 0 nil64) _ _ HH.out
  refine ⟨rfl, F, ⟨HQ.out.at_, fun b hb => by rw [setRow_size]; exact HQ.out.lt b hb, ⟨0, nil64, by omega, rfl, h3, fun j xs hj => by simp at hj⟩, ⟨Nat.zero_le _, HQ.out.short.2.1, HQ.out.short.2.2.1, fun xs hx => by simp at hx⟩⟩, fun b hb => Or.inl hb, ?_⟩
  exact ⟨rfl, rfl, rfl, by rw [setRow_size]; exact Nat.le_refl _, fun k _ hk => setRow_other w g k _ (fun e => hk (by rw [e]; exact HQ.out.at_))⟩
theorem qclear_nil (w : World) : Calls Try.prog 17 #[.pointer none] w fun e w' => e = .returned (.tuple #[]) ∧ w = w' := by
  go_enter Try.func17, Try.ntmps17
  go_wp2_with fail
  refine (made_nil _).mono ?_
  rintro e w' ⟨rfl, rfl⟩
  go_wp2_with fail
  go_end0
  exact ⟨rfl, rfl⟩
theorem qpush_nil (A : Option Addr) (n c : Nat) (w : World) : Calls Try.prog 11 #[.pointer none, .slice A n c] w fun e w' => e = .returned (.int .i64 2) ∧ w = w' := by
  go_enter Try.func11, Try.ntmps11
  go_wp2_with fail
  refine (made_nil _).mono ?_
  rintro e w' ⟨rfl, rfl⟩
  go_wp2_with fail
  go_ret
  exact ⟨rfl, rfl⟩
theorem qpeek_nil (w : World) : Calls Try.prog 16 #[.pointer none] w fun e w' => e = .returned (.tuple #[.slice none 0 0, .bool false]) ∧ w = w' := by
  go_enter Try.func16, Try.ntmps16
  go_wp2_with fail
  refine (qlen_nil _).mono ?_
  rintro e w' ⟨rfl, rfl⟩
  go_wp2_with fail
  go_ret2
  exact ⟨rfl, rfl⟩
theorem qpop_nil (w : World) : Calls Try.prog 13 #[.pointer none] w fun e w' => e = .returned (.tuple #[.slice none 0 0, .bool false]) ∧ w = w' := by
  go_enter Try.func13, Try.ntmps13
  go_wp2_with fail
  refine (qpeek_nil _).mono ?_
  rintro e w' ⟨rfl, rfl⟩
  go_wp2_with fail
  go_ret2
  exact ⟨rfl, rfl⟩
theorem qall_nil (w : World) : Calls Try.prog 18 #[.pointer none] w fun e w' => ∃ A c, e = .returned (.slice A 0 c) ∧ Keep w w' := by
  have hm := fun w => run_make_rows (P := Try.prog) (t := 40) (e := 31) Try.underlying40 infoRow 0 (by omega) w
  have hm : ∀ w, (Instr.makeSlice 40 (.int .i64 0) (.int .i64 0)).run Try.prog w = _ := hm
  have K0 := Lib.hid ((Keep.refl w).alloc (madeCells #[.slice none 0 0] 0) 31)
  go_enter Try.func18, Try.ntmps18
  go_wp2_with fail
  refine (qlen_nil _).mono ?_
  rintro e w' ⟨rfl, rfl⟩
  go_wp2_with fail
  go_loopw [10] (fun i wr => i = .int .i64 0 ∧ Keep w wr) (fun i _ => 0)
  case atStart => exact ⟨rfl, K0.out⟩
  case round =>
    obtain ⟨rfl, hk⟩ := hrel
    have HK := Lib.hid hk
    clear hk
    go_wp2_with fail
    go_ret
    exact ⟨_, _, rfl, HK.out⟩
/-- A queue that New did not make. -/
theorem made_zero (g : Nat) (w : World) (h : w.heap[g]? = some (.cells (qcells 0 0 0 nil64) 52 (0, 0))) :
    Calls Try.prog 22 #[.pointer (some ⟨g, 0, none⟩)] w fun e w' => e = .returned (.bool false) ∧ w = w' := by
  obtain ⟨c0, _, _, _, _⟩ := qcells_at h
  have c0 : w.cell? ⟨g, 0, none⟩ = some (.int .i64 0) := c0
  clear h
  go_enter Try.func22, Try.ntmps22
  go_wp2_with fail
  go_ret
  exact ⟨rfl, rfl⟩
theorem qzero : ∃ cs : Array Value, (∀ w, (zeroValue 52).run Try.prog w = .ok (.agg cs) w) ∧ ∀ (A : Option Addr) (n c : Nat) (w : World), Calls Try.prog 11 #[.pointer (some ⟨w.heap.size, 0, none⟩), .slice A n c] (w.alloc (.cells cs 52)) fun e w' => e = .returned (.int .i64 2) ∧ Keep w w' := by
  refine ⟨qcells 0 0 0 nil64, fun w => by kernel_rfl, fun A n c w => ?_⟩
  have H := Lib.hid (heap_alloc_new w (.cells (qcells 0 0 0 nil64) 52))
  have K := Lib.hid ((Keep.refl w).alloc (qcells 0 0 0 nil64) 52)
  obtain ⟨g, hg⟩ : ∃ g, w.heap.size = g := ⟨_, rfl⟩
  rw [hg] at H
  rw [hg]
  generalize w.alloc (.cells (qcells 0 0 0 nil64) 52) = w1 at *
  go_enter Try.func11, Try.ntmps11
  go_wp2_with fail
  refine (made_zero g _ H.out).mono ?_
  rintro e w' ⟨rfl, rfl⟩
  go_wp2_with fail
  go_ret
  exact ⟨rfl, K.out⟩
end Go.Proofs.Ythgplballiibnaa
