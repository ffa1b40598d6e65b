/- The landed draw's contracts: isCount, Systematic, Turn, lay, orElse, Coefs. -/
import Derived.Test.YthhabiehkabpcaaDoorDv
import Derived.Test.YthhabiehkabpcaaDoorFill
namespace Go.Proofs.YthhabiehkabpcaaDoor
open Go.RowKit
set_option linter.unusedVariables false
set_option linter.unusedSimpArgs false
/-- What is drawn of n rows. -/
def coefN (n k : Nat) (xs : List Nat) : List Nat := if vLead n (fillN xs n) < 0 then vUnit n k else fillN xs n
theorem vUnit_len (n k : Nat) : (vUnit n k).length = n := tab_length _ _
theorem coefN_len (n k : Nat) (xs : List Nat) : (coefN n k xs).length = n := by
  unfold coefN; split
  · exact vUnit_len n k
  · exact fillN_len xs n
theorem count_any (n : Int) (b : Bool) (hb : b = decide (1 ≤ n ∧ n ≤ 255)) (w : World) :
    Calls Tryd.prog 9 #[.int .i64 n] w fun e w' => e = .returned (.bool b) ∧ w = w' := by
  by_cases h1 : 1 ≤ n
  · by_cases h2 : n ≤ 255
    · obtain rfl : b = true := by rw [hb]; exact decide_eq_true ⟨h1, h2⟩
      clear hb
      go_enter Tryd.func9, Tryd.ntmps9
      go_wp2_with fail
      go_ret
      exact ⟨rfl, rfl⟩
    · obtain rfl : b = false := by rw [hb]; exact decide_eq_false (fun h => h2 h.2)
      clear hb
      go_enter Tryd.func9, Tryd.ntmps9
      go_wp2_with fail
      go_ret
      exact ⟨rfl, rfl⟩
  · obtain rfl : b = false := by rw [hb]; exact decide_eq_false (fun h => h1 h.1)
    clear hb
    go_enter Tryd.func9, Tryd.ntmps9
    go_wp2_with fail
    go_ret
    exact ⟨rfl, rfl⟩
theorem sys_any (t n : Int) (b : Bool) (hb : b = decide (0 ≤ t ∧ t < n)) (w : World) :
    Calls Tryd.prog 10 #[.int .i64 t, .int .i64 n] w fun e w' => e = .returned (.bool b) ∧ w = w' := by
  by_cases h1 : 0 ≤ t
  · by_cases h2 : t < n
    · obtain rfl : b = true := by rw [hb]; exact decide_eq_true ⟨h1, h2⟩
      clear hb
      go_enter Tryd.func10, Tryd.ntmps10
      go_wp2_with fail
      go_ret
      exact ⟨rfl, rfl⟩
    · obtain rfl : b = false := by rw [hb]; exact decide_eq_false (fun h => h2 h.2)
      clear hb
      go_enter Tryd.func10, Tryd.ntmps10
      go_wp2_with fail
      go_ret
      exact ⟨rfl, rfl⟩
  · obtain rfl : b = false := by rw [hb]; exact decide_eq_false (fun h => h1 h.1)
    clear hb
    go_enter Tryd.func10, Tryd.ntmps10
    go_wp2_with fail
    go_ret
    exact ⟨rfl, rfl⟩
set_option maxHeartbeats 1000000 in
theorem lay_any (B n m c : Nat) (A : Option Addr) (xs : List Nat) (w : World) (h : Bytes w B A m xs) (hB : B ≤ w.heap.size) (hn : n ≤ 255) :
    Calls Tryd.prog 12 #[.slice A m c, .int .i64 (n : Int)] w (NewBytes w (fillN xs n)) := by
  have hmk := run_make_bytes (P := Tryd.prog) Tryd.underlying22 info5 n (by omega) w
  obtain ⟨w1, v1, hr, hg, hk⟩ := run_copy_fill (P := Tryd.prog) (n := n) (t := 22) (e := 5) (c := c) (ty := 3) Tryd.underlying22 (by kernel_rfl) h hB (by omega)
  have HG := Lib.hid hg
  have HK := Lib.hid hk
  clear h hg hk
  go_enter Tryd.func12, Tryd.ntmps12
  go_wp2_with fail
  go_ret
  exact ⟨_, n, n, rfl, HG.out, HK.out⟩
/-- A box. -/
def Held (w : World) (b : Nat) (v : Value) (t : TypeId) : Prop := w.heap[b]? = some (.cells #[v] t (0, 0))
theorem Held.cell {w : World} {b : Nat} {v : Value} {t : TypeId} (h : Held w b v t) : w.cell? ⟨b, 0, none⟩ = some v := cell_of_one h
theorem Held.keep {w w' : World} {b : Nat} {v : Value} {t : TypeId} (h : Held w b v t) (k : Keep w w') : Held w' b v t := by
  have hb : b < w.heap.size := (Array.getElem?_eq_some_iff.1 h).1
  unfold Held; rw [k.block b hb]; exact h
theorem instead_any (b1 b2 n k : Nat) (t1 t2 : TypeId) (w : World) (h1 : Held w b1 (.int .i64 (n : Int)) t1) (h2 : Held w b2 (.int .i64 (k : Int)) t2) (hk : k < n) (hn : n ≤ 255) :
    Calls Tryd.prog 13 #[.pointer (some ⟨b1, 0, none⟩), .pointer (some ⟨b2, 0, none⟩)] w (NewPair w (vUnit n k) 0) := by
  have c1 := h1.cell
  have c2 := h2.cell
  clear h1 h2
  go_enter Tryd.func13, Tryd.ntmps13
  go_wp2_with fail
  refine (vunit_in n k hk (by omega) _).mono ?_
  rintro e w1 ⟨A, m, c, rfl, ho, kp⟩
  have HO := Lib.hid ho
  have HK := Lib.hid kp
  clear ho kp
  go_wp2_with fail
  go_ret2
  exact ⟨_, _, _, rfl, HO.out, HK.out⟩
set_option maxHeartbeats 1000000 in
theorem orelse_any (b1 b2 n k c : Nat) (A : Option Addr) (xs : List Nat) (t1 t2 : TypeId) (w : World) (h : Own w w.heap.size 5 A n c xs ∨ Bytes w w.heap.size A n xs) (h1 : Held w b1 (.int .i64 (n : Int)) t1) (h2 : Held w b2 (.int .i64 (k : Int)) t2) (hk : k < n) (hn : n ≤ 255) :
    Calls Tryd.prog 11 #[.slice A n c, .func (.func 13) #[] #[.pointer (some ⟨b1, 0, none⟩), .pointer (some ⟨b2, 0, none⟩)]] w fun e w' =>
      (vLead n xs < 0 → NewPair w (vUnit n k) 0 e w') ∧ (¬ vLead n xs < 0 → e = .returned (.tuple #[.slice A n c, .int .i64 0]) ∧ w = w') := by
  have hb : Bytes w w.heap.size A n xs := by
    rcases h with h | h
    · exact h.bytes
    · exact h
  have H1 := Lib.hid h1
  have H2 := Lib.hid h2
  clear h h1 h2
  have HZ := Lib.hid (vzero_eq w.heap.size n c A xs w hb (by omega))
  clear hb
  by_cases hz : vLead n xs < 0
  · have HB : Hid (vLead n xs < 0) := hz
    have hd : decide (vLead n xs < 0) = true := decide_eq_true hz
    generalize decide (vLead n xs < 0) = q at *
    subst hd
    clear hz
    go_enter Tryd.func11, Tryd.ntmps11
    go_wp2_with fail
    refine HZ.out.mono ?_
    rintro e w1 ⟨rfl, rfl⟩
    go_wp2_with fail
    refine (instead_any b1 b2 n k t1 t2 _ H1.out H2.out hk hn).mono ?_
    rintro e w1 ⟨A', m, c', rfl, ho, kp⟩
    have HO := Lib.hid ho
    have HK := Lib.hid kp
    clear ho kp
    go_wp2_with fail
    go_ret2
    exact ⟨fun _ => ⟨_, _, _, rfl, HO.out, HK.out⟩, fun e => by have := HB.out; omega⟩
  · have HB : Hid (¬ vLead n xs < 0) := hz
    have hd : decide (vLead n xs < 0) = false := decide_eq_false hz
    generalize decide (vLead n xs < 0) = q at *
    subst hd
    clear hz
    go_enter Tryd.func11, Tryd.ntmps11
    go_wp2_with fail
    refine HZ.out.mono ?_
    rintro e w1 ⟨rfl, rfl⟩
    go_wp2_with fail
    go_ret2
    exact ⟨fun e => by have := HB.out; omega, fun _ => ⟨rfl, rfl⟩⟩
end Go.Proofs.YthhabiehkabpcaaDoor
