/- The landed pad: room; the closure that hands out pieces. -/
import Derived.Test.YtcafofffgmaepaaPd
import Derived.OneCell
import Derived.Test.YtcafofffgmaepaaPw
import Derived.Test.YtcafofffgmaepaaLibc
import Derived.Test.YtcafofffgmaepaaRegion
import Derived.Deep.LoopGhost
import Derived.Laws.EntriesVeiled
namespace Go.Proofs.Ytcafofffgmaepaa
open Go.RowKit
set_option linter.unusedVariables false
set_option linter.unusedSimpArgs false
theorem proom_in (G S P : Nat) (g1 : 1 ≤ G) (g2 : G ≤ 255) (s1 : 1 ≤ S) (s2 : S ≤ 65535) (hP : (G : Int) * (S : Int) = (P : Int)) (p1 : 5 ≤ P) (p2 : P ≤ 16711425) (w : World) :
    Calls Try.prog 67 #[.int .i64 (G : Int), .int .i64 (S : Int)] w fun e w' => e = .returned (.tuple #[.int .i64 ((P - 4 : Nat) : Int), .int .i64 0]) ∧ w = w' := by
  have d1 : decide ((G : Int) < 1) = false := decide_eq_false (by omega)
  have d2 : decide ((255 : Int) < (G : Int)) = false := decide_eq_false (by omega)
  have d3 : decide ((S : Int) < 1) = false := decide_eq_false (by omega)
  have d4 : decide ((65535 : Int) < (S : Int)) = false := decide_eq_false (by omega)
  have d5 : decide ((P : Int) ≤ 4) = false := decide_eq_false (by omega)
  have w1 : IntKind.i64.wrap (P : Int) = (P : Int) := IntWalk.i64_in _ (by omega)
  have w2 : IntKind.i64.wrap ((P : Int) - 4) = ((P - 4 : Nat) : Int) := by rw [show (P : Int) - 4 = ((P - 4 : Nat) : Int) by omega]; exact IntWalk.i64_in _ (by omega)
  go_enter Try.func67, Try.ntmps67
  go_wp2_with fail
  go_ret2
  exact ⟨rfl, rfl⟩
theorem proom_out (g s : Int) (h : ¬ MayG g s) (w : World) :
    Calls Try.prog 67 #[.int .i64 g, .int .i64 s] w fun e w' => e = .returned (.tuple #[.int .i64 0, .int .i64 1]) ∧ w = w' := by
  have H := Lib.hid h
  by_cases h1 : g < 1
  · have d1 : decide (g < 1) = true := decide_eq_true h1
    clear h
    go_enter Try.func67, Try.ntmps67
    go_wp2_with fail
    go_ret2
    exact ⟨rfl, rfl⟩
  have d1 : decide (g < 1) = false := decide_eq_false h1
  by_cases h2 : 255 < g
  · have d2 : decide (255 < g) = true := decide_eq_true h2
    clear h
    go_enter Try.func67, Try.ntmps67
    go_wp2_with fail
    go_ret2
    exact ⟨rfl, rfl⟩
  have d2 : decide (255 < g) = false := decide_eq_false h2
  by_cases h3 : s < 1
  · have d3 : decide (s < 1) = true := decide_eq_true h3
    clear h
    go_enter Try.func67, Try.ntmps67
    go_wp2_with fail
    go_ret2
    exact ⟨rfl, rfl⟩
  have d3 : decide (s < 1) = false := decide_eq_false h3
  by_cases h4 : 65535 < s
  · have d4 : decide (65535 < s) = true := decide_eq_true h4
    clear h
    go_enter Try.func67, Try.ntmps67
    go_wp2_with fail
    go_ret2
    exact ⟨rfl, rfl⟩
  have d4 : decide (65535 < s) = false := decide_eq_false h4
  have h5 : g * s < 5 := by
    refine Classical.byContradiction fun h5 => h ⟨by omega, by omega, by omega, by omega, by omega⟩
  have h6 : 0 ≤ g * s := Int.mul_nonneg (by omega) (by omega)
  have w1 : IntKind.i64.wrap (g * s) = g * s := IntWalk.i64_in _ (by omega)
  have d5 : decide (g * s ≤ 4) = true := decide_eq_true (by omega)
  obtain ⟨p, hp⟩ : ∃ p, g * s = p := ⟨_, rfl⟩
  rw [hp] at h5 h6 w1 d5
  clear h
  go_enter Try.func67, Try.ntmps67
  go_wp2_with fail
  go_ret2
  exact ⟨rfl, rfl⟩
/-- Three indices: a piece with nothing behind it. -/
theorem run_three (n m c : Nat) (A : Option Addr) (h : n ≤ c) (w : World) :
    (Instr.slice 22 (.slice A m c) none (some (.int .i64 (n : Int))) (some (.int .i64 (n : Int)))).run Try.prog w = .ok (.slice A n n) w := by
  have ht : Try.prog.underlying 22 = some (.slice (Try.prog.elem 22)) := by kernel_rfl
  obtain ⟨i0, hi0, hz0, hz1, hz2⟩ := info_parts info5
  have he : Try.prog.elem 22 = 5 := by kernel_rfl
  rw [run_slice_hm (P := Try.prog) (w := w) 22 A m c ht .i64 .i64 n n (by omega) (by omega) (by omega), he]
  have ha : A.map (fun x : Addr => x.add 0) = A := by
    cases A with
    | none => rfl
    | some a =>
      obtain ⟨b, off, spot⟩ := a
      simp [Addr.add]
  simp [sizeOf, typeInfo, hi0, hz1, sliced, ha]
set_option maxRecDepth 100000 in
theorem run_behind (n m c : Nat) (A : Option Addr) (h : n ≤ m) (w : World) :
    (Instr.slice 22 (.slice A m c) (some (.int .i64 (n : Int))) none none).run Try.prog w = .ok (.slice (dropA A c n) (m - n) (c - n)) w :=
  run_drop (t := 22) (by kernel_rfl) info5 m c n A h w
/-- What is to be handed out stands at gC. -/
def Cur (w : World) (gC m c : Nat) (A : Option Addr) : Prop := w.heap[gC]? = some (.cells #[.slice A m c] 22 (0, 0))
theorem Cur.cell {w : World} {gC m c : Nat} {A : Option Addr} (h : Cur w gC m c A) : w.cell? ⟨gC, 0, none⟩ = some (.slice A m c) := cell_of_one h
theorem Cur.free {w : World} {gC m c : Nat} {A : Option Addr} (h : Cur w gC m c A) : w.frozen? ⟨gC, 0, none⟩ = false := free_of_one h
theorem Cur.put {w : World} {gC m c m' c' : Nat} {A A' : Option Addr} (h : Cur w gC m c A) : Cur (w.setCell ⟨gC, 0, none⟩ (.slice A' m' c')) gC m' c' A' := one_setCell h
theorem handing_any (A : Option Addr) (m c : Nat) (w : World) : Calls Try.prog 86 #[.slice A m c] w fun e w' => e = .returned (.func (.func 111) #[] #[.pointer (some ⟨w.heap.size, 0, none⟩)]) ∧ w' = w.alloc (.cells #[.slice A m c] 22) := by
  have hmf : ∀ (fn : Fn) (first cap : Array Value) (w : World), (Instr.makeFunc fn first cap).run Try.prog w = .ok (.func fn first cap) w := fun _ _ _ _ => rfl
  go_enter Try.func86, Try.ntmps86
  go_wp2_with fail
  go_ret
  exact ⟨rfl, rfl⟩
theorem hand_any (gC n m c : Nat) (A : Option Addr) (hn : n ≤ m) (hm : m ≤ c) (w : World) (h : Cur w gC m c A) :
    Calls Try.prog 111 #[.int .i64 (n : Int), .pointer (some ⟨gC, 0, none⟩)] w fun e w' => e = .returned (.slice A n n) ∧ w' = w.setCell ⟨gC, 0, none⟩ (.slice (dropA A c n) (m - n) (c - n)) := by
  have c0 := h.cell
  have f0 := h.free
  have s1 := run_three n m c A (by omega)
  have s2 := run_behind n m c A hn
  clear h
  go_enter Try.func111, Try.ntmps111
  go_wp2_with fail
  go_ret
  exact ⟨rfl, rfl⟩
end Go.Proofs.Ytcafofffgmaepaa
/- The landed pad: the tests of Take; Take. -/
namespace Go.Proofs.Ytcafofffgmaepaa
open Go.RowKit
set_option linter.unusedVariables false
set_option linter.unusedSimpArgs false
theorem notnought_any (x : Nat) (b : Bool) (hb : ((x : Int) != 0) = b) (w : World) :
    Calls Try.prog 76 #[.int .u8 x] w fun e w' => e = .returned (.bool b) ∧ w = w' := by
  go_enter Try.func76, Try.ntmps76
  go_wp2_with fail
  go_ret
  exact ⟨rfl, rfl⟩
set_option maxRecDepth 100000 in
theorem pindex_any (B n ca : Nat) (A : Option Addr) (xs : List Nat) (w : World) (h : Bytes w B A n xs) (_hn : n ≤ 140737488351232) :
    Calls Try.prog 107 #[.slice A n ca, .func (.func 76) #[] #[]] w fun e w' => (∃ z : Int, e = .returned (.int .i64 z) ∧ decide (0 ≤ z) = xs.any (fun x => x != 0)) ∧ w = w' := by
  go_enter Try.func107, Try.ntmps107
  go_wp2_with fail
  go_loop [8] (fun i => ∃ k : Nat, k ≤ n ∧ i = .int .i64 k ∧ ∀ j, j < k → xs.getD j 0 = 0) (fun i => n - (intOf i).toNat)
  case atStart => exact ⟨0, by omega, rfl, fun j hj => by omega⟩
  case round =>
    obtain ⟨k, hk, rfl, hz⟩ := hrel
    have HZ := Lib.hid hz
    clear hz
    by_cases hlt : k < n
    · obtain ⟨b1, o1, rfl, hb1, hc1⟩ := h.at_ hlt
      have hx := h.all.getD k
      by_cases h0 : xs.getD k 0 = 0
      · have hs : Hid (∀ j, j < k + 1 → xs.getD j 0 = 0) := fun j hj => by
          by_cases e : j = k
          · subst e; exact h0
          · exact HZ.out j (by omega)
        have b1' : (((xs.getD k 0 : Nat) : Int) != 0) = false := by rw [h0]; rfl
        generalize xs.getD k 0 = x at *
        have HB1 := Lib.hid b1'
        clear h0 b1'
        go_wp2_with fail
        refine (notnought_any x false HB1.out _).mono ?_
        rintro e w1 ⟨rfl, rfl⟩
        go_wp2_with fail
        go_round
        case rel => exact ⟨k + 1, by omega, by go_num, hs.out⟩
        case measure => simp [intOf]; omega
      · have hv : Hid (xs.any (fun x => x != 0) = true) := List.any_eq_true.2 ⟨xs.getD k 0, by
          rw [List.getD_eq_getElem?_getD, List.getElem?_eq_getElem (by rw [h.length]; exact hlt)]; exact List.getElem_mem _, by simpa using h0⟩
        have b1' : (((xs.getD k 0 : Nat) : Int) != 0) = true := by rw [bne_iff_ne]; omega
        generalize xs.getD k 0 = x at *
        have HB1 := Lib.hid b1'
        clear h0 b1'
        go_wp2_with fail
        refine (notnought_any x true HB1.out _).mono ?_
        rintro e w1 ⟨rfl, rfl⟩
        go_wp2_with fail
        go_ret
        exact ⟨⟨_, rfl, by rw [hv.out]; exact decide_eq_true (by omega)⟩, rfl⟩
    · have hv : Hid (xs.any (fun x => x != 0) = false) := List.any_eq_false.2 fun x hx => by
        obtain ⟨j, hj, e⟩ := List.getElem_of_mem hx
        have := HZ.out j (by rw [h.length] at hj; omega)
        rw [List.getD_eq_getElem?_getD, List.getElem?_eq_getElem hj] at this
        have h2 : x = 0 := by rw [← e]; exact this
        simp [h2]
      go_wp2_with fail
      go_ret
      exact ⟨⟨_, rfl, by rw [hv.out]; rfl⟩, rfl⟩
theorem pnoughts_any (B n ca : Nat) (A : Option Addr) (xs : List Nat) (w : World) (h : Bytes w B A n xs) (hn : n ≤ 140737488351232) :
    Calls Try.prog 75 #[.slice A n ca, .func (.func 76) #[] #[]] w fun e w' => e = .returned (.bool (xs.any (fun x => x != 0))) ∧ w = w' := by
  have HI := Lib.hid (pindex_any B n ca A xs w h hn)
  generalize xs.any (fun x => x != 0) = q at *
  clear h
  go_enter Try.func75, Try.ntmps75
  go_wp2_with fail
  refine HI.out.mono ?_
  rintro e w1 ⟨⟨z, rfl, hz⟩, rfl⟩
  go_wp2_with fail
  go_ret
  exact ⟨by rw [← hz]; rfl, rfl⟩
theorem notsize_any (n c S g : Nat) (A : Option Addr) (b : Bool) (hb : ((n : Int) != (S : Int)) = b) (w : World) (h : w.cell? ⟨g, 0, none⟩ = some (.int .i64 (S : Int))) :
    Calls Try.prog 69 #[.slice A n c, .pointer (some ⟨g, 0, none⟩)] w fun e w' => e = .returned (.bool b) ∧ w = w' := by
  go_enter Try.func69, Try.ntmps69
  go_wp2_with fail
  go_ret
  exact ⟨rfl, rfl⟩
set_option maxRecDepth 100000 in
theorem pindexrows_any (B n ca S g : Nat) (A : Option Addr) (rs : List RowV) (w : World) (h : RowsAt w B A n rs) (hn : n ≤ 1000000) (hc : w.cell? ⟨g, 0, none⟩ = some (.int .i64 (S : Int))) :
    Calls Try.prog 102 #[.slice A n ca, .func (.func 69) #[] #[.pointer (some ⟨g, 0, none⟩)]] w fun e w' => (∃ z : Int, e = .returned (.int .i64 z) ∧ decide (0 ≤ z) = rs.any (fun r => r.n != S)) ∧ w = w' := by
  have H := Lib.hid h
  clear h
  go_enter Try.func102, Try.ntmps102
  go_wp2_with fail
  go_loop [8] (fun i => ∃ k : Nat, k ≤ n ∧ i = .int .i64 k ∧ ∀ (j : Nat) (r : RowV), j < k → rs[j]? = some r → r.n = S) (fun i => n - (intOf i).toNat)
  case atStart => exact ⟨0, by omega, rfl, fun j r hj => by omega⟩
  case round =>
    obtain ⟨k, hk, rfl, hz⟩ := hrel
    have HZ := Lib.hid hz
    clear hz
    by_cases hlt : k < n
    · obtain ⟨b1, o1, r, rfl, hb1, hr, hc1, hby, hrn, hrc⟩ := H.out.at_ hlt
      by_cases h0 : r.n = S
      · have hs : Hid (∀ (j : Nat) (r : RowV), j < k + 1 → rs[j]? = some r → r.n = S) := fun j r' hj hr' => by
          by_cases e : j = k
          · subst e; rw [hr] at hr'; injection hr' with hr'; rw [← hr']; exact h0
          · exact HZ.out j r' (by omega) hr'
        have b1' : Hid (((r.n : Int) != (S : Int)) = false) := by show _ = _; rw [h0]; simp
        clear h0 hr hby
        go_wp2_with fail
        refine (notsize_any r.n r.c S g r.A false b1'.out _ hc).mono ?_
        rintro e w1 ⟨rfl, rfl⟩
        go_wp2_with fail
        go_round
        case rel => exact ⟨k + 1, by omega, by go_num, hs.out⟩
        case measure => simp [intOf]; omega
      · have hv : Hid (rs.any (fun r => r.n != S) = true) := List.any_eq_true.2 ⟨r, List.mem_of_getElem? hr, by simpa using h0⟩
        have b1' : Hid (((r.n : Int) != (S : Int)) = true) := by show _ = _; rw [bne_iff_ne]; omega
        clear h0 hr hby
        go_wp2_with fail
        refine (notsize_any r.n r.c S g r.A true b1'.out _ hc).mono ?_
        rintro e w1 ⟨rfl, rfl⟩
        go_wp2_with fail
        go_ret
        exact ⟨⟨_, rfl, by rw [hv.out]; exact decide_eq_true (by omega)⟩, rfl⟩
    · have hv : Hid (rs.any (fun r => r.n != S) = false) := List.any_eq_false.2 fun r hr => by
        obtain ⟨j, hj, e⟩ := List.getElem_of_mem hr
        have h2 : r.n = S := HZ.out j r (by have := H.out.1; omega) (by rw [List.getElem?_eq_getElem hj, e])
        simp [h2]
      go_wp2_with fail
      go_ret
      exact ⟨⟨_, rfl, by rw [hv.out]; rfl⟩, rfl⟩
theorem psizes_any (B n ca S g : Nat) (A : Option Addr) (rs : List RowV) (w : World) (h : RowsAt w B A n rs) (hn : n ≤ 1000000) (hc : w.cell? ⟨g, 0, none⟩ = some (.int .i64 (S : Int))) :
    Calls Try.prog 68 #[.slice A n ca, .func (.func 69) #[] #[.pointer (some ⟨g, 0, none⟩)]] w fun e w' => e = .returned (.bool (rs.any (fun r => r.n != S))) ∧ w = w' := by
  have HI := Lib.hid (pindexrows_any B n ca S g A rs w h hn hc)
  generalize rs.any (fun r => r.n != S) = q at *
  clear h
  go_enter Try.func68, Try.ntmps68
  go_wp2_with fail
  refine HI.out.mono ?_
  rintro e w1 ⟨⟨z, rfl, hz⟩, rfl⟩
  go_wp2_with fail
  go_ret
  exact ⟨by rw [← hz]; rfl, rfl⟩
end Go.Proofs.Ytcafofffgmaepaa
/- The landed pad: Take. -/
namespace Go.Proofs.Ytcafofffgmaepaa
open Go.RowKit
set_option linter.unusedVariables false
set_option linter.unusedSimpArgs false
theorem ptake_out (g s : Int) (h : ¬ MayG g s) (A : Option Addr) (n c : Nat) (w : World) : Calls Try.prog 35 #[.slice A n c, .int .i64 g, .int .i64 s] w (NewPair w [] 1) := by
  have hc : (w.alloc (.cells #[.int .i64 s] 3)).cell? ⟨w.heap.size, 0, none⟩ = some (.int .i64 s) := by rw [World.cell?_alloc_at _ _ _ _ rfl]; rfl
  go_enter Try.func35, Try.ntmps35
  go_wp2_with fail
  refine (proom_out g s h _).mono ?_
  rintro e w1 ⟨rfl, rfl⟩
  go_wp2_with fail
  go_ret2
  exact NewPair.none_at ((Keep.refl w).alloc _ _) 1
theorem ptake_dim (G S P n : Nat) (g1 : 1 ≤ G) (g2 : G ≤ 255) (s1 : 1 ≤ S) (s2 : S ≤ 65535) (hP : (G : Int) * (S : Int) = (P : Int)) (p1 : 5 ≤ P) (p2 : P ≤ 16711425) (hn : n ≠ G) (A : Option Addr) (c : Nat) (w : World) : Calls Try.prog 35 #[.slice A n c, .int .i64 (G : Int), .int .i64 (S : Int)] w (NewPair w [] 21) := by
  have d1 : ((n : Int) == (G : Int)) = false := beq_eq_false_iff_ne.2 (by omega)
  have hc : (w.alloc (.cells #[.int .i64 (S : Int)] 3)).cell? ⟨w.heap.size, 0, none⟩ = some (.int .i64 (S : Int)) := by rw [World.cell?_alloc_at _ _ _ _ rfl]; rfl
  go_enter Try.func35, Try.ntmps35
  go_wp2_with fail
  refine (proom_in G S P g1 g2 s1 s2 hP p1 p2 _).mono ?_
  rintro e w1 ⟨rfl, rfl⟩
  go_wp2_with fail
  go_ret2
  exact NewPair.none_at ((Keep.refl w).alloc _ _) 21
theorem join_flat (rs : List RowV) : joinN rs = (rowsOf rs).flatten := by simp [joinN, rowsOf, List.flatMap_def]
theorem sizes_all {S : Nat} : ∀ {rs : List RowV}, (∀ r ∈ rs, r.n = S) → sizesN rs = rs.length * S
  | [], _ => by simp [sizesN]
  | r :: rs, h => by
    have ih := sizes_all (rs := rs) fun x hx => h x (by simp [hx])
    unfold sizesN at ih ⊢
    rw [List.map_cons, List.sum_cons, ih, h r (by simp), List.length_cons, Nat.add_mul, Nat.one_mul, Nat.add_comm]
theorem okSym_iff {G S : Nat} {rs : List RowV} (hl : rs.length = G) (hx : ∀ r ∈ rs, r.xs.length = r.n) : okSym G S (rowsOf rs) ↔ rs.any (fun r => r.n != S) = false := by
  rw [List.any_eq_false]
  constructor
  · rintro ⟨_, h⟩ r hr
    have := h r.xs (List.mem_map.2 ⟨r, hr, rfl⟩)
    rw [hx r hr] at this
    simp [this]
  · intro h
    refine ⟨by rw [rowsOf, List.length_map, hl], fun x hm => ?_⟩
    obtain ⟨r, hr, rfl⟩ := List.mem_map.1 hm
    have := h r hr
    rw [hx r hr]
    simpa using this
set_option maxRecDepth 100000 in
set_option maxHeartbeats 4000000 in
theorem ptake_in (G S P : Nat) (g1 : 1 ≤ G) (g2 : G ≤ 255) (s1 : 1 ≤ S) (s2 : S ≤ 65535) (hP : (G : Int) * (S : Int) = (P : Int)) (p1 : 5 ≤ P) (p2 : P ≤ 16711425) (A : Option Addr) (c : Nat) (rs : List RowV) (w : World) (h : RowsAt w w.heap.size A G rs) :
    Calls Try.prog 35 #[.slice A G c, .int .i64 (G : Int), .int .i64 (S : Int)] w (NewPair w (takeV G S (rowsOf rs)) (takeE G S (rowsOf rs))) := by
  have HPN : Hid (G * S = P) := by
    have : ((G * S : Nat) : Int) = (P : Int) := by rw [← hP]; simp
    show _ = _
    omega
  obtain ⟨w0, hw0⟩ : ∃ w0, w.alloc (.cells #[.int .i64 (S : Int)] 3) = w0 := ⟨_, rfl⟩
  obtain ⟨gs, hgs⟩ : ∃ gs, w.heap.size = gs := ⟨_, rfl⟩
  have hc : w0.cell? ⟨gs, 0, none⟩ = some (.int .i64 (S : Int)) := by rw [← hw0, ← hgs, World.cell?_alloc_at _ _ _ _ rfl]; rfl
  have K0 : Hid (Keep w w0) := by show Keep w w0; rw [← hw0]; exact (Keep.refl w).alloc _ _
  have H0 : Hid (RowsAt w0 w0.heap.size A G rs) := by
    have h1 := h.keep (Nat.le_refl _) K0.out
    exact ⟨h1.1, fun r hr => ⟨(h1.2.1 r hr).1.mono K0.out.size, (h1.2.1 r hr).2⟩, fun hn => by
      obtain ⟨b, off, e, hb, hcc⟩ := h1.2.2 hn
      exact ⟨b, off, e, Nat.lt_of_lt_of_le hb K0.out.size, hcc⟩⟩
  have HR := Lib.hid (proom_in G S P g1 g2 s1 s2 hP p1 p2 w0)
  have HSZ := Lib.hid (psizes_any w0.heap.size G c S gs A rs w0 H0.out (by omega) hc)
  have HX : Hid (∀ r ∈ rs, r.xs.length = r.n) := fun r hr => (H0.out.2.1 r hr).1.length
  have HOK := Lib.hid (okSym_iff (S := S) H0.out.1 HX.out)
  have HW0 := Lib.hid hw0
  have HGS := Lib.hid hgs
  clear h
  generalize hq : rs.any (fun r => r.n != S) = q at *
  have HQ := Lib.hid hq
  clear hq
  obtain ⟨E, hE⟩ : ∃ E, takeE G S (rowsOf rs) = E := ⟨_, rfl⟩
  obtain ⟨V, hV⟩ : ∃ V, takeV G S (rowsOf rs) = V := ⟨_, rfl⟩
  rw [hE, hV]
  have HEE := Lib.hid hE
  have HVV := Lib.hid hV
  clear hE hV
  go_enter Try.func35, Try.ntmps35
  go_wp2_with fail
  refine HR.out.mono ?_
  rintro e w1 ⟨rfl, rfl⟩
  cases q with
  | true =>
    have h1 : E = 21 := by
      rw [← HEE.out, takeE, if_pos]
      intro hok
      exact absurd (HOK.out.1 hok) (by decide)
    have h2 : V = [] := by rw [← HVV.out, takeV, HEE.out, if_neg (by rw [h1]; decide)]
    clear HEE HVV
    subst h1; subst h2
    go_wp2_with fail
    refine HSZ.out.mono ?_
    rintro e w1 ⟨rfl, rfl⟩
    go_wp2_with fail
    go_ret2
    exact NewPair.none_at K0.out 21
  | false =>
    have hok : okSym G S (rowsOf rs) := HOK.out.2 rfl
    have hsz : ∀ r ∈ rs, r.n = S := fun r hr => by
      have := List.any_eq_false.1 HQ.out r hr
      simpa using this
    have HSS : Hid (sizesN rs = P) := by show _ = _; rw [sizes_all hsz, H0.out.1, HPN.out]
    obtain ⟨Y, hY⟩ : ∃ Y, (rowsOf rs).flatten = Y := ⟨_, rfl⟩
    have HJ : Hid (joinN rs = Y) := by show _ = _; rw [join_flat, hY]
    have HYL : Hid (Y.length = P) := by
      show _ = _
      rw [← hY, flat_cut hok.2, hok.1, HPN.out]
    have HYA : Hid (AllB Y) := by
      rw [← HJ.out]
      show AllB (joinN rs)
      intro x hx
      obtain ⟨r, hr, hx⟩ := List.mem_flatMap.1 hx
      exact (H0.out.2.1 r hr).1.2.1 x hx
    have HE : Hid (E = (if ¬ okForm P Y then 5 else 0) ∧ V = if E = 0 then (Y.drop 4).take (headN Y) else []) := by
      refine And.intro ?_ ?_
      · rw [← HEE.out, takeE, if_neg (not_not_intro hok), hY, HPN.out]
      · rw [← HVV.out, takeV, HEE.out, hY]
    clear HEE HVV hsz hok
    go_wp2_with fail
    refine HSZ.out.mono ?_
    rintro e w1 ⟨rfl, rfl⟩
    go_wp2_with fail
    refine (concat_any w0.heap.size G c A rs w0 H0.out.up (Nat.le_refl _) (by omega) (by rw [HSS.out]; omega)).mono ?_
    rintro e w2 ⟨A2, n2, c2, rfl, o2, k2⟩
    rw [HJ.out] at o2
    have hn2 : P = n2 := by have := o2.length; rw [HYL.out] at this; exact this
    subst hn2
    have K2 : Hid (Keep w w2) := K0.out.trans k2
    have B2 := Lib.hid o2.bytes
    clear o2 k2
    go_wp2_with fail
    refine (wnew_any _ P c2 A2 Y w2 B2.out (Nat.le_refl _) (by omega)).mono ?_
    rintro e w3 ⟨g, F, rfl, hr, hF, k3⟩
    have hgw : Hid (w.heap.size ≤ g) := by
      have h1 := hF g hr.at_
      have h2 := K2.out.size
      show _ ≤ _; omega
    have K3 : Hid (Keep w w3) := K2.out.trans k3
    have R3 := Lib.hid hr
    clear hr hF k3
    go_wp2_with fail
    refine (wread_in F g Y 4 (by omega) (by omega) (by rw [HYL.out]; omega) w3 R3.out).mono ?_
    rintro e w4 ⟨rfl, r4, k4⟩
    have R4 := Lib.hid r4
    have K4 : Hid (Keep w w4) := K3.out.grown k4 fun k hk => by injection hk with hk; rw [← hk]; exact hgw.out
    clear r4 k4
    obtain ⟨v, hv⟩ : ∃ v, valN (Y.take 4) = v := ⟨_, rfl⟩
    have HV : Hid (headN Y = v) := hv
    have hvl : v < 4294967296 := by
      rw [← hv]
      have := valN_lt (Y.take 4) (HYA.out.take 4)
      rw [List.length_take, HYL.out, Nat.min_eq_left (by omega)] at this
      simpa using this
    rw [hv]
    clear hv
    have w1 : IntKind.u64.wrap ((P - 4 : Nat) : Int) = ((P - 4 : Nat) : Int) := IntWalk.u64_in _ (by omega)
    have w2 : IntKind.i64.wrap (v : Int) = (v : Int) := IntWalk.i64_in _ (by omega)
    by_cases hv1 : v < 1
    · have d1 : ((v : Int) == 0) = true := by rw [beq_iff_eq]; omega
      have h1 : E = 5 := by rw [HE.out.1, if_pos]; intro hk; have := hk.1; rw [HV.out] at this; omega
      have h2 : V = [] := by rw [HE.out.2, if_neg (by rw [h1]; decide)]
      clear HE
      subst h1; subst h2
      obtain rfl : v = 0 := by omega
      clear hv1 d1
      go_wp2_with fail
      go_ret2
      exact NewPair.none_at K4.out 5
    have d1 : ((v : Int) == 0) = false := beq_eq_false_iff_ne.2 (by omega)
    by_cases hv2 : P - 4 < v
    · have d2 : decide (((P - 4 : Nat) : Int) < (v : Int)) = true := decide_eq_true (by omega)
      have d2' : decide (P - 4 < v) = true := decide_eq_true hv2
      have h1 : E = 5 := by rw [HE.out.1, if_pos]; intro hk; have := hk.2.1; rw [HV.out] at this; omega
      have h2 : V = [] := by rw [HE.out.2, if_neg (by rw [h1]; decide)]
      clear HE
      subst h1; subst h2
      go_wp2_with fail
      go_ret2
      exact NewPair.none_at K4.out 5
    have d2 : decide (((P - 4 : Nat) : Int) < (v : Int)) = false := decide_eq_false (by omega)
    have d2' : decide (P - 4 < v) = false := decide_eq_false hv2
    have HV1 : Hid (1 ≤ v ∧ v + 4 ≤ P) := ⟨by omega, by omega⟩
    clear hv1 hv2
    go_wp2_with fail
    refine (wtake_in F g (Y.drop 4) v (by rw [List.length_drop, HYL.out]; have := HV1.out; omega) (by omega) w4 R4.out).mono ?_
    rintro e w5 ⟨A5, n5, c5, rfl, o5, ⟨r5, f5⟩, k5⟩
    have O5 : Hid (Own w5 w.heap.size 5 A5 n5 c5 ((Y.drop 4).take v)) := o5.lower K4.out.size
    have R5 := Lib.hid r5
    have F5 := Lib.hid f5
    have K5 : Hid (Keep w w5) := K4.out.grown k5 fun k hk => by injection hk with hk; rw [← hk]; exact hgw.out
    clear o5 r5 f5 k5
    go_wp2_with fail
    refine (wleft_any F g ((Y.drop 4).drop v) w5 R5.out).mono ?_
    rintro e w6 ⟨rfl, rfl⟩
    obtain ⟨Z, hZ⟩ : ∃ Z, (Y.drop 4).drop v = Z := ⟨_, rfl⟩
    have HZ : Hid (Y.drop (4 + v) = Z) := by show _ = _; rw [← hZ, List.drop_drop]
    have HZL : Hid (Z.length = P - 4 - v) := by show _ = _; rw [← hZ, List.length_drop, List.length_drop, HYL.out]
    rw [hZ] at R5 ⊢
    clear hZ
    obtain ⟨z, hz⟩ : ∃ z, Z.length = z := ⟨_, rfl⟩
    have hzb : z ≤ 16711425 := by have := HZL.out; omega
    have T7 := Lib.hid (wtake_in F g Z z (by omega) (by omega) w5 R5.out)
    have HZZ := Lib.hid hz
    rw [hz]
    clear hz
    go_wp2_with fail
    refine T7.out.mono ?_
    rintro e w7 ⟨A7, n7, c7, rfl, o7, _, k7⟩
    rw [List.take_of_length_le (by rw [HZZ.out]; exact Nat.le_refl _)] at o7
    have hn7 : z = n7 := by have := o7.length; rw [HZZ.out] at this; exact this
    subst hn7
    have O7 : Hid (Own w7 w.heap.size 5 A5 n5 c5 ((Y.drop 4).take v)) := O5.out.turned (Turned.of_grown (F := fun b => b = g) k7 fun i hi => by injection hi with hi; exact hi.symm) fun b hb hf => F5.out b hb (by rw [hf]; exact R5.out.at_)
    have B7 := Lib.hid o7.bytes
    have K7 : Hid (Keep w w7) := K5.out.grown k7 fun k hk => by injection hk with hk; rw [← hk]; exact hgw.out
    clear o7 k7
    obtain ⟨q, hq⟩ : ∃ q, Z.any (fun x => x != 0) = q := ⟨_, rfl⟩
    have HN := Lib.hid (pnoughts_any _ z c7 A7 Z w7 B7.out (by omega))
    rw [hq] at HN
    have HQ7 := Lib.hid hq
    clear hq
    go_wp2_with fail
    refine HN.out.mono ?_
    rintro e w8 ⟨rfl, rfl⟩
    cases q with
    | true =>
      have h1 : E = 5 := by
        rw [HE.out.1, if_pos]
        intro hk
        have h3 := hk.2.2
        rw [HV.out, HZ.out] at h3
        obtain ⟨x, hx, hx0⟩ := List.any_eq_true.1 HQ7.out
        rw [h3 x hx] at hx0
        exact absurd hx0 (by decide)
      have h2 : V = [] := by rw [HE.out.2, if_neg (by rw [h1]; decide)]
      clear HE
      subst h1; subst h2
      go_wp2_with fail
      go_ret2
      exact NewPair.none_at K7.out 5
    | false =>
      have h1 : E = 0 := by
        rw [HE.out.1, if_neg]
        refine not_not_intro ⟨by rw [HV.out]; exact HV1.out.1, by rw [HV.out]; have := HV1.out; omega, fun x hx => ?_⟩
        rw [HV.out, HZ.out] at hx
        have := List.any_eq_false.1 HQ7.out x hx
        simpa using this
      have h2 : V = (Y.drop 4).take v := by rw [HE.out.2, if_pos h1, HV.out]
      clear HE
      subst h1; subst h2
      go_wp2_with fail
      go_ret2
      exact ⟨A5, n5, c5, rfl, O7.out, K7.out⟩
end Go.Proofs.Ytcafofffgmaepaa
/- The landed pad: Lay. -/
namespace Go.Proofs.Ytcafofffgmaepaa
open Go.RowKit
set_option linter.unusedVariables false
set_option linter.unusedSimpArgs false
theorem OwnRows.lower {w : World} {base base' e n c : Nat} {A : Option Addr} {rs : List RowV} (h : OwnRows w base e A n c rs) (hb : base' ≤ base) : OwnRows w base' e A n c rs := by
  refine ⟨h.1, ?_⟩
  rcases h.2 with hv | ⟨g, cap, cur, hv, hg, hr⟩
  · exact Or.inl hv
  · exact Or.inr ⟨g, cap, cur, hv, Nat.le_trans hb hg, hr⟩
theorem Cur.turned {F : Nat → Prop} {w w' : World} {gC m c : Nat} {A : Option Addr} (h : Cur w gC m c A) (k : Turned F w w') (hn : ¬ F gC) : Cur w' gC m c A := (k.block gC (lt_of_block h) hn).trans h
theorem Cur.keep {w w' : World} {gC m c : Nat} {A : Option Addr} (h : Cur w gC m c A) (k : Keep w w') : Cur w' gC m c A := (k.block gC (lt_of_block h)).trans h
theorem Cur.lt {w : World} {gC m c : Nat} {A : Option Addr} (h : Cur w gC m c A) : gC < w.heap.size := lt_of_block h
/-- The rows of one block, cut. -/
def rsL (b S : Nat) (ys : List Nat) (k : Nat) : List RowV := (List.range k).map fun i => ⟨some ⟨b, i * S, none⟩, S, S, cutN S i ys⟩
theorem rsL_len (b S : Nat) (ys : List Nat) (k : Nat) : (rsL b S ys k).length = k := by simp [rsL]
theorem rsL_succ (b S : Nat) (ys : List Nat) (k : Nat) : rsL b S ys (k + 1) = rsL b S ys k ++ [⟨some ⟨b, k * S, none⟩, S, S, cutN S k ys⟩] := by simp [rsL, List.range_succ]
theorem rsL_get {b S k i : Nat} {ys : List Nat} (h : i < k) : (rsL b S ys k)[i]? = some ⟨some ⟨b, i * S, none⟩, S, S, cutN S i ys⟩ := by simp [rsL, h]
theorem rsL_xs (b S : Nat) (ys : List Nat) (k : Nat) : rowsXs (rsL b S ys k) = cutsN k S ys := by simp [rsL, rowsXs, cutsN, Function.comp_def]
def rsM (b S : Nat) (ys : List Nat) (G k : Nat) : List RowV := rsL b S ys k ++ List.replicate (G - k) ⟨none, 0, 0, []⟩
theorem rsM_set {b S G k : Nat} {ys : List Nat} (h : k < G) : (rsM b S ys G k).set k ⟨some ⟨b, k * S, none⟩, S, S, cutN S k ys⟩ = rsM b S ys G (k + 1) := by
  rw [rsM, List.set_append_right _ _ (by rw [rsL_len]; exact Nat.le_refl _), rsL_len, Nat.sub_self, rsM, rsL_succ, List.append_assoc]
  rw [show G - k = (G - (k + 1)) + 1 by omega, List.replicate_succ]
  rfl
theorem rsM_all (b S : Nat) (ys : List Nat) (G : Nat) : rsM b S ys G G = rsL b S ys G := by simp [rsM]
theorem rsM_zero (b S : Nat) (ys : List Nat) (G : Nat) : rsM b S ys G 0 = List.replicate G ⟨none, 0, 0, []⟩ := by simp [rsM, rsL]
/-- What Lay hands back: rows of one block of its own, side by side. -/
def LaidAt (w : World) (base gr b c G S P : Nat) (ys : List Nat) : Prop :=
  OwnRows w base 22 (some ⟨gr, 0, none⟩) G G (rsL b S ys G) ∧ Own w base 5 (some ⟨b, 0, none⟩) P c ys
def NewLaid (w : World) (G S P : Nat) (ys : List Nat) (e : Ending) (w' : World) : Prop :=
  ∃ gr b c, e = .returned (.tuple #[.slice (some ⟨gr, 0, none⟩) G G, .int .i64 0]) ∧ LaidAt w' w.heap.size gr b c G S P ys ∧ Keep w w'
theorem play_out (g s : Int) (h : ¬ MayG g s) (A : Option Addr) (n c : Nat) (w : World) : Calls Try.prog 95 #[.slice A n c, .int .i64 g, .int .i64 s] w fun e w' => e = .returned (.tuple #[.slice none 0 0, .int .i64 1]) ∧ w = w' := by
  go_enter Try.func95, Try.ntmps95
  go_wp2_with fail
  refine (proom_out g s h w).mono ?_
  rintro e w1 ⟨rfl, rfl⟩
  go_wp2_with fail
  go_ret2
  exact ⟨rfl, rfl⟩
theorem play_none (G S P : Nat) (g1 : 1 ≤ G) (g2 : G ≤ 255) (s1 : 1 ≤ S) (s2 : S ≤ 65535) (hP : (G : Int) * (S : Int) = (P : Int)) (p1 : 5 ≤ P) (p2 : P ≤ 16711425) (A : Option Addr) (c : Nat) (w : World) : Calls Try.prog 95 #[.slice A 0 c, .int .i64 (G : Int), .int .i64 (S : Int)] w fun e w' => e = .returned (.tuple #[.slice none 0 0, .int .i64 4]) ∧ w = w' := by
  go_enter Try.func95, Try.ntmps95
  go_wp2_with fail
  refine (proom_in G S P g1 g2 s1 s2 hP p1 p2 w).mono ?_
  rintro e w1 ⟨rfl, rfl⟩
  go_wp2_with fail
  go_ret2
  exact ⟨rfl, rfl⟩
theorem play_long (G S P n : Nat) (g1 : 1 ≤ G) (g2 : G ≤ 255) (s1 : 1 ≤ S) (s2 : S ≤ 65535) (hP : (G : Int) * (S : Int) = (P : Int)) (p1 : 5 ≤ P) (p2 : P ≤ 16711425) (hn : P < n + 4) (A : Option Addr) (c : Nat) (w : World) : Calls Try.prog 95 #[.slice A n c, .int .i64 (G : Int), .int .i64 (S : Int)] w fun e w' => e = .returned (.tuple #[.slice none 0 0, .int .i64 3]) ∧ w = w' := by
  have d1 : ((n : Int) == 0) = false := beq_eq_false_iff_ne.2 (by omega)
  have d2 : ((P - 4 : Nat) : Int) < (n : Int) := by omega
  go_enter Try.func95, Try.ntmps95
  go_wp2_with fail
  refine (proom_in G S P g1 g2 s1 s2 hP p1 p2 w).mono ?_
  rintro e w1 ⟨rfl, rfl⟩
  go_wp2_with fail
  go_ret2
  exact ⟨rfl, rfl⟩
set_option maxRecDepth 100000 in
set_option maxHeartbeats 4000000 in
theorem play_in (G S P n : Nat) (g1 : 1 ≤ G) (g2 : G ≤ 255) (s1 : 1 ≤ S) (s2 : S ≤ 65535) (hP : (G : Int) * (S : Int) = (P : Int)) (p1 : 5 ≤ P) (p2 : P ≤ 16711425) (hn1 : 1 ≤ n) (hn : n + 4 ≤ P) (A : Option Addr) (c : Nat) (xs : List Nat) (w : World) (h : Bytes w w.heap.size A n xs) :
    Calls Try.prog 95 #[.slice A n c, .int .i64 (G : Int), .int .i64 (S : Int)] w (NewLaid w G S P (allN P xs)) := by
  have H := Lib.hid h
  have HXL : Hid (xs.length = n) := h.length
  have HPN : Hid (G * S = P) := by
    have : ((G * S : Nat) : Int) = (P : Int) := by rw [← hP]; simp
    show _ = _
    omega
  have d1 : ((n : Int) == 0) = false := beq_eq_false_iff_ne.2 (by omega)
  have d2 : ¬ ((P - 4 : Nat) : Int) < (n : Int) := by omega
  have d3 : decide (((P - 4 : Nat) : Int) < (n : Int)) = false := decide_eq_false d2
  have d3' : decide (P - 4 < n) = false := decide_eq_false (by omega)
  have u1 : IntKind.u64.wrap (n : Int) = (n : Int) := IntWalk.u64_in _ (by omega)
  obtain ⟨q, hq⟩ : ∃ q, P - 4 - n = q := ⟨_, rfl⟩
  have u2 : IntKind.i64.wrap (((P - 4 : Nat) : Int) - (n : Int)) = (q : Int) := by rw [show ((P - 4 : Nat) : Int) - (n : Int) = (q : Int) by omega]; exact IntWalk.i64_in _ (by omega)
  have HQ := Lib.hid hq
  have hqb : q ≤ 16711425 := by omega
  clear h hq
  go_enter Try.func95, Try.ntmps95
  go_wp2_with fail
  refine (proom_in G S P g1 g2 s1 s2 hP p1 p2 w).mono ?_
  rintro e w1 ⟨rfl, rfl⟩
  go_wp2_with fail
  refine (wnum_in 0 0 0 n 4 none [] w (Bytes.nil _ _ _) (Nat.zero_le _) (by omega) (by omega) (by omega) (by omega)).mono ?_
  rintro e w1 ⟨A1, n1, c1, rfl, o1, k1⟩
  have hlt4 : n < 256 ^ 4 := by have : (256 : Nat) ^ 4 = 4294967296 := by decide
                                omega
  rw [laysOf, if_pos hlt4, List.nil_append] at o1
  rw [laysErr, if_pos hlt4]
  have hn1' : 4 = n1 := by have := o1.length; rw [formN_length] at this; exact this
  subst hn1'
  have O1 := Lib.hid o1
  have K1 := Lib.hid k1
  clear o1 k1 hlt4
  have mk := run_make_bytes (P := Try.prog) Try.underlying22 info5 q (by omega) w1
  obtain ⟨w2, hw2⟩ : ∃ w2, w1.alloc (.cells (madeCells #[.int .u8 0] q) 5) = w2 := ⟨_, rfl⟩
  have O2 : Hid (Own w2 w1.heap.size 5 (some ⟨w1.heap.size, 0, none⟩) q q (List.replicate q 0)) := by rw [← hw2]; exact Own.made w1 5 q (by omega)
  have K2 : Hid (Keep w1 w2) := by show Keep _ _; rw [← hw2]; exact (Keep.refl _).alloc _ _
  rw [hw2] at mk
  obtain ⟨gz, hgz⟩ : ∃ gz, w1.heap.size = gz := ⟨_, rfl⟩
  rw [hgz] at mk O2
  clear hw2 hgz
  have HR := Lib.hid (RowsUp.lit (w := w2) rfl 22 3 [⟨A1, 4, c1, formN 4 n⟩, ⟨A, n, c, xs⟩, ⟨some ⟨gz, 0, none⟩, q, q, List.replicate q 0⟩] #[.slice A1 4 c1, .slice A n c, .slice (some ⟨gz, 0, none⟩) q q] rfl rfl (fun r hr => by
    simp only [List.mem_cons, List.not_mem_nil, or_false] at hr
    rcases hr with rfl | rfl | rfl
    · exact (O1.out.keep K2.out).bytes
    · exact (H.out.keep (Nat.le_refl _) (K1.out.trans K2.out)).mono (K1.out.trans K2.out).size
    · exact O2.out.bytes))
  go_wp2_with fail
  refine (concat_any _ 3 _ _ _ _ HR.out (by simp) (by omega) (by simp [sizesN]; omega)).mono ?_
  rintro e w3 ⟨A3, n3, c3, rfl, o3, k3⟩
  have hY : joinN [⟨A1, 4, c1, formN 4 n⟩, ⟨A, n, c, xs⟩, ⟨some ⟨gz, 0, none⟩, q, q, List.replicate q 0⟩] = allN P xs := by
    simp [joinN, allN, HXL.out, HQ.out]
  rw [hY] at o3
  obtain ⟨Y, hYY⟩ : ∃ Y, allN P xs = Y := ⟨_, rfl⟩
  have HYL : Hid (Y.length = P) := by rw [← hYY]; exact allN_len (by rw [HXL.out]; exact hn)
  have HYY := Lib.hid hYY
  rw [hYY] at o3
  have hn3 : P = n3 := by have := o3.length; rw [HYL.out] at this; exact this
  subst hn3
  have K3 : Hid (Keep w w3) := (K1.out.trans (K2.out.trans ((Keep.refl _).alloc _ _))).trans k3
  have hsz : w.heap.size ≤ (w2.alloc (.cells #[.slice A1 4 c1, .slice A n c, .slice (some ⟨gz, 0, none⟩) q q] 22)).heap.size := (K1.out.trans (K2.out.trans ((Keep.refl _).alloc _ _))).size
  have o3 := o3.lower hsz
  obtain ⟨b, rfl, hb1, hb2⟩ := o3.block (by omega)
  have hPc : P ≤ c3 := own_le o3
  have O3 := Lib.hid o3
  have HB := Lib.hid (And.intro hb1 hb2)
  clear o3 k3 hY hYY HR O1 O2 K1 K2 mk hsz hb1 hb2
  go_wp2_with fail
  refine (handing_any (some ⟨b, 0, none⟩) P c3 w3).mono ?_
  rintro e w4 ⟨rfl, hw4⟩
  have mk := run_make_rows (P := Try.prog) Try.underlying49 infoRow G (by omega) w4
  obtain ⟨gC, hgC⟩ : ∃ gC, w3.heap.size = gC := ⟨_, rfl⟩
  obtain ⟨gr, hgr⟩ : ∃ gr, w4.heap.size = gr := ⟨_, rfl⟩
  obtain ⟨w5, hw5⟩ : ∃ w5, w4.alloc (.cells (madeCells #[.slice none 0 0] G) 22) = w5 := ⟨_, rfl⟩
  have K4 : Hid (Keep w3 w4) := by show Keep _ _; rw [hw4]; exact (Keep.refl _).alloc _ _
  have K5 : Hid (Keep w4 w5) := by show Keep _ _; rw [← hw5]; exact (Keep.refl _).alloc _ _
  have C5 : Hid (Cur w5 gC P c3 (some ⟨b, 0, none⟩)) := by
    have h1 : Cur w4 gC P c3 (some ⟨b, 0, none⟩) := by rw [hw4, ← hgC]; exact heap_alloc_new w3 _
    exact h1.keep K5.out
  have O5 : Hid (Own w5 w.heap.size 5 (some ⟨b, 0, none⟩) P c3 Y) := O3.out.keep (K4.out.trans K5.out)
  have R5 : Hid (OwnRows w5 w.heap.size 22 (some ⟨gr, 0, none⟩) G G (rsM b S Y G 0)) := by
    rw [rsM_zero]
    show OwnRows _ _ _ _ _ _ _
    rw [← hw5, ← hgr]
    exact OwnRows.lower (OwnRows.made w4 22 G (by omega)) (K3.out.trans K4.out).size
  have HK5 : Hid (Keep w w5) := K3.out.trans (K4.out.trans K5.out)
  have HN : Hid (b < gC ∧ gC < gr ∧ w.heap.size ≤ gC) := by
    have h1 := HB.out.2
    have h2 := K3.out.size
    have h3 : gC < gr := by rw [← hgr, hw4, ← hgC]; simp
    refine ⟨?_, h3, ?_⟩ <;> omega
  rw [hgr, hw5] at mk
  rw [hgC]
  clear hw4 hgC hgr hw5 K4 K5 O3
  go_wp2_with fail
  go_loopw [52] (fun iv wr => ∃ (i : Nat) (Ac : Option Addr), i ≤ G ∧ iv = .int .i64 i ∧ OwnRows wr w.heap.size 22 (some ⟨gr, 0, none⟩) G G (rsM b S Y G i) ∧ Cur wr gC (P - i * S) (c3 - i * S) Ac ∧ (i < G → Ac = some ⟨b, i * S, none⟩) ∧ Own wr w.heap.size 5 (some ⟨b, 0, none⟩) P c3 Y ∧ Keep w wr) (fun iv _ => G - (intOf iv).toNat)
  case atStart => exact ⟨0, some ⟨b, 0, none⟩, by omega, rfl, R5.out, by simpa using C5.out, fun _ => by simp, O5.out, HK5.out⟩
  case round =>
    clear R5 C5 O5 HK5 mk
    obtain ⟨i, Ac, hi, rfl, hr, hcu, hac, ho, hk⟩ := hrel
    have f1 : (0 : Int) ≤ (i : Int) := Int.natCast_nonneg _
    by_cases hlt : i < G
    · have f2 : (i : Int) < (G : Int) := by omega
      obtain rfl := hac hlt
      obtain ⟨p, hp⟩ : ∃ p, i * S = p := ⟨_, rfl⟩
      obtain ⟨p', hp'⟩ : ∃ p', (i + 1) * S = p' := ⟨_, rfl⟩
      have hqP : p' ≤ P := by rw [← hp', ← HPN.out]; exact Nat.mul_le_mul_right S hlt
      have hpq : p + S = p' := by rw [← hp, ← hp', Nat.add_mul, Nat.one_mul]
      rw [hp] at hcu
      have hset := rsM_set (b := b) (S := S) (ys := Y) hlt
      rw [hp] at hset
      have HC := Lib.hid (hand_any gC S (P - p) (c3 - p) (some ⟨b, p, none⟩) (by omega) (by omega) wr hcu)
      obtain ⟨wq, hwq⟩ : ∃ wq, wr.setCell ⟨gC, 0, none⟩ (.slice (dropA (some ⟨b, p, none⟩) (c3 - p) S) (P - p - S) (c3 - p - S)) = wq := ⟨_, rfl⟩
      rw [hwq] at HC
      have hT : Turned (fun x => x = gC) wr wq := by rw [← hwq]; exact Turned.set wr _ _ rfl
      have hcq : Cur wq gC (P - p - S) (c3 - p - S) (dropA (some ⟨b, p, none⟩) (c3 - p) S) := by rw [← hwq]; exact hcu.put
      have hrq := hr.turned hT fun x hx hf => by have hx : some gr = some x := hx; injection hx with hx; have := HN.out; have hf : x = _ := hf; omega
      have hoq := ho.turned hT fun x hx hf => by have hx : some b = some x := hx; injection hx with hx; have := HN.out; have hf : x = _ := hf; omega
      have hkq := hT.keep hk fun x hx => by rw [hx]; exact HN.out.2.2
      have cr : wq.cell? ⟨gr, i, none⟩ = some (.slice none 0 0) := by
        have := World.ownsRow.cellAt hrq i (by omega)
        rw [this, List.getElem?_map, rsM, List.getElem?_append_right (by rw [rsL_len]; exact Nat.le_refl _), rsL_len, List.getElem?_replicate, if_pos (by omega)]
        rfl
      have fr : wq.frozen? ⟨gr, i, none⟩ = false := World.ownsRow.frozenAt hrq i
      have hTs : Turned (fun x => x = gr) wq (wq.setCell ⟨gr, i, none⟩ (.slice (some ⟨b, p, none⟩) S S)) := Turned.set wq _ _ rfl
      have hrs := hrq.stored (i := i) ⟨some ⟨b, p, none⟩, S, S, cutN S i Y⟩
      rw [hset] at hrs
      have HRS := Lib.hid hrs
      have HCS := Lib.hid (hcq.turned hTs (fun hf => by have := HN.out; have hf : gC = gr := hf; omega))
      have HOS := Lib.hid (hoq.turned hTs fun x hx hf => by have hx : some b = some x := hx; injection hx with hx; have := HN.out; have hf : x = _ := hf; omega)
      have HKS := Lib.hid (hTs.keep hkq fun x hx => by rw [hx]; have := HN.out; omega)
      have HP' := Lib.hid (And.intro hp' hpq)
      have hlast : Hid (i + 1 < G → dropA (some ⟨b, p, none⟩) (c3 - p) S = some ⟨b, (i + 1) * S, none⟩) := fun h2 => by
        have h3 : p' + S ≤ P := by
          have : (i + 1 + 1) * S ≤ G * S := Nat.mul_le_mul_right S h2
          rw [HPN.out, Nat.add_mul (i + 1), Nat.one_mul, hp'] at this; exact this
        rw [dropA_some _ _ _ _ (by omega), hp', hpq]
      clear hset hr hcu hac ho hk hrq hoq hkq hcq hT hTs hrs hp hp' hpq hwq
      go_wp2_with fail
      refine HC.out.mono ?_
      rintro e w6 ⟨rfl, rfl⟩
      go_wp2_with fail
      go_roundw
      case rel => exact ⟨i + 1, _, by omega, by go_num, HRS.out, by
        have h1 := HP'.out
        have h2 := HCS.out
        rw [h1.1, ← h1.2, Nat.sub_add_eq P p S, Nat.sub_add_eq c3 p S]; exact h2, hlast.out, HOS.out, HKS.out⟩
      case measure => simp [intOf]; omega
    · obtain rfl : i = G := by omega
      rw [rsM_all] at hr
      have HRR := Lib.hid hr
      have HO := Lib.hid ho
      have HK := Lib.hid hk
      clear hr ho hk hcu hac
      go_wp2_with fail
      go_ret2
      exact ⟨gr, b, c3, rfl, by rw [HYY.out]; exact ⟨HRR.out, HO.out⟩, HK.out⟩
end Go.Proofs.Ytcafofffgmaepaa
/- The landed pad: which cuts may be; chunks, step by step, plainly. -/
namespace Go.Proofs.Ytcafofffgmaepaa
open Go.RowKit
set_option linter.unusedVariables false
set_option linter.unusedSimpArgs false
section
variable {room : Nat} {cs xs : List Nat}
theorem chunk_stay {at_ : Nat} {C : List (List Nat)} (h : chunkN room cs xs (at_ + 1) = (C, at_)) : ∀ d, (∀ t, at_ < t → t < at_ + 1 + d → t ∉ cs ∧ t - at_ ≠ room) → chunkN room cs xs (at_ + 1 + d) = (C, at_)
  | 0, _ => h
  | d + 1, ht => by
    have ih := chunk_stay h d fun t h1 h2 => ht t h1 (by omega)
    rw [← Nat.add_assoc, chunkN_succ, ih, if_neg]
    intro he
    obtain ⟨h1, h2⟩ := ht (at_ + 1 + d) (by omega) (by omega)
    rcases he with he | he
    · exact h2 he
    · exact h1 he.2
theorem chunk_step {at_ m : Nat} {C : List (List Nat)} (h : chunkN room cs xs (at_ + 1) = (C, at_)) (h1 : 1 ≤ m) (h2 : m ≤ room) (hc : ∀ t, at_ < t → t < at_ + m → t ∉ cs) (he : m = room ∨ at_ + m ∈ cs) :
    chunkN room cs xs (at_ + m + 1) = (C ++ [pieceN xs at_ (at_ + m)], at_ + m) := by
  obtain ⟨d, rfl⟩ : ∃ d, m = d + 1 := ⟨m - 1, by omega⟩
  have hs := chunk_stay h d fun t h3 h4 => ⟨hc t h3 (by omega), by omega⟩
  have e : at_ + (d + 1) = at_ + 1 + d := by omega
  have hend : isEnd room cs at_ (at_ + 1 + d) := by
    rcases he with he | he
    · exact Or.inl (by omega)
    · exact Or.inr ⟨by omega, by rw [← e]; exact he⟩
  rw [e, chunkN_succ, hs, if_pos hend]
theorem chunk_rest {at_ n : Nat} {C : List (List Nat)} (h : chunkN room cs xs (at_ + 1) = (C, at_)) (ha : at_ ≤ n) (hr : n - at_ < room) (hc : ∀ t, at_ < t → t ≤ n → t ∉ cs) : chunkN room cs xs (n + 1) = (C, at_) := by
  have := chunk_stay h (n - at_) fun t h1 h2 => ⟨hc t h1 (by omega), by omega⟩
  rwa [show at_ + 1 + (n - at_) = n + 1 by omega] at this
theorem chunk_start (h : 1 ≤ room) : chunkN room cs xs (0 + 1) = ([], 0) := by
  rw [chunkN_succ, if_neg]
  · rfl
  · intro he
    rcases he with he | he
    · have he : 0 - 0 = room := he
      omega
    · exact absurd he.1 (Nat.not_lt_zero _)
end
def CutsTold (n m : Nat) (l : List Int) (e : Ending) : Prop := ∃ q, e = .returned (.bool q) ∧ (q = true ↔ GoodC n l m)
theorem CutsTold.yes {n m : Nat} {l : List Int} (h : GoodC n l m) : CutsTold n m l (.returned (.bool true)) := ⟨true, rfl, fun _ => h, fun _ => rfl⟩
theorem CutsTold.no {n m : Nat} {l : List Int} (h : ¬ GoodC n l m) : CutsTold n m l (.returned (.bool false)) := ⟨false, rfl, (fun h2 => absurd h2 (by decide)), fun h2 => absurd h2 h⟩
set_option maxRecDepth 100000 in
set_option maxHeartbeats 1000000 in
theorem arecuts_any (n m : Nat) (hn : n ≤ 140737488351232) (hm : m ≤ 140737488351232) (A' : Option Addr) (c' : Nat) (l : List Int) (w : World) (h' : IntsAt w w.heap.size A' m l) :
    Calls Try.prog 85 #[.slice A' m c', .int .i64 (n : Int)] w fun e w' => CutsTold n m l e ∧ w = w' := by
  have HI := Lib.hid h'
  have HML : Hid (l.length = m) := h'.1
  clear h'
  go_enter Try.func85, Try.ntmps85
  go_wp2_with fail
  go_loop [5, 10] (fun av iv => ∃ (i : Nat) (a : Int), i ≤ m ∧ iv = .int .i64 i ∧ av = .int .i64 a ∧ 0 ≤ a ∧ GoodC n l i ∧ (i = 0 → a = 0) ∧ (0 < i → l[i - 1]? = some a)) (fun _ iv => m - (intOf iv).toNat)
  case atStart => exact ⟨0, 0, by omega, rfl, rfl, by omega, fun i z hi => by omega, fun _ => rfl, fun h => by omega⟩
  case round =>
    obtain ⟨i, a, hi, rfl, rfl, ha, hg, h0, hl⟩ := hrel
    have HG := Lib.hid hg
    have H0 := Lib.hid h0
    have HL := Lib.hid hl
    have f1 : (0 : Int) ≤ (i : Int) := Int.natCast_nonneg _
    clear hg h0 hl
    by_cases hlt : i < m
    · have f2 : (i : Int) < (m : Int) := by omega
      obtain ⟨b, off, rfl, hb, hcell⟩ := HI.out.2 (by omega)
      have hx := List.getElem?_eq_getElem (l := l) (i := i) (by rw [HML.out]; exact hlt)
      obtain ⟨x, hxx⟩ : ∃ x, l[i]'(by rw [HML.out]; exact hlt) = x := ⟨_, rfl⟩
      rw [hxx] at hx
      have c1 := hcell i x hx
      have HX := Lib.hid hx
      clear hx hxx hcell
      by_cases h1 : x < a
      · have d1 : decide (x < a) = true := decide_eq_true h1
        have hbad : Hid (¬ GoodC n l m) := fun hG => by
          have h3 := hG i x hlt HX.out
          rcases Nat.eq_zero_or_pos i with e | e
          · have := H0.out e; omega
          · have := h3.2.2 a e (HL.out e); omega
        go_wp2_with fail
        go_ret
        exact ⟨.no hbad.out, rfl⟩
      · have d1 : decide (x < a) = false := decide_eq_false h1
        by_cases h2 : (n : Int) < x
        · have d2 : decide ((n : Int) < x) = true := decide_eq_true h2
          have hbad : Hid (¬ GoodC n l m) := fun hG => by
            have h3 := hG i x hlt HX.out
            omega
          go_wp2_with fail
          go_ret
          exact ⟨.no hbad.out, rfl⟩
        · have d2 : decide ((n : Int) < x) = false := decide_eq_false h2
          have HN : Hid (GoodC n l (i + 1)) := HG.out.next x HX.out (by omega) (by omega) fun y hy hy2 => by
            have := HL.out hy
            rw [this] at hy2; injection hy2 with hy2; omega
          have hx0 : 0 ≤ x := by omega
          go_wp2_with fail
          go_round
          case rel => exact ⟨i + 1, x, by omega, by go_num, rfl, hx0, HN.out, fun h => by omega, fun _ => by rw [Nat.add_sub_cancel]; exact HX.out⟩
          case measure => simp [intOf]; omega
    · obtain rfl : i = m := by omega
      go_wp2_with fail
      go_ret
      exact ⟨.yes HG.out, rfl⟩
end Go.Proofs.Ytcafofffgmaepaa
/- The landed pad: a chunk more. -/
namespace Go.Proofs.Ytcafofffgmaepaa
open Go.RowKit
set_option linter.unusedVariables false
set_option linter.unusedSimpArgs false
/-- A variable of its own. -/
def Var1 (w : World) (g : Nat) (v : Value) (t : TypeId) : Prop := w.heap[g]? = some (.cells #[v] t (0, 0))
namespace Var1
variable {w w' : World} {g : Nat} {v : Value} {t : TypeId}
theorem cell (h : Var1 w g v t) : w.cell? ⟨g, 0, none⟩ = some v := cell_of_one h
theorem free (h : Var1 w g v t) : w.frozen? ⟨g, 0, none⟩ = false := free_of_one h
theorem put {u : Value} (h : Var1 w g v t) : Var1 (w.setCell ⟨g, 0, none⟩ u) g u t := one_setCell h
theorem lt (h : Var1 w g v t) : g < w.heap.size := lt_of_block h
theorem turned {F : Nat → Prop} (h : Var1 w g v t) (k : Turned F w w') (hn : ¬ F g) : Var1 w' g v t := (k.block g (lt_of_block h) hn).trans h
end Var1
/-- The places of Chunks' own variables. -/
structure ChK (w : World) (B1 B2 B3 gC b base N cN : Nat) : Prop where
  o1 : w.heap.size ≤ B1
  o2 : B1 < gC
  o3 : gC < B2
  o4 : B2 < B3
  o5 : B3 < base
  ob : 0 < N → B1 < b ∧ b < gC
  oc : N ≤ cN ∧ N ≤ 100000
/-- All but the chunks: the function that hands out, the place, what is left, the bytes. -/
structure ChB (w : World) (B2 B3 gC b N cN : Nat) (ys : List Nat) (wr : World) (at_ cp : Nat) : Prop where
  fn : Var1 wr B2 (.func (.func 111) #[] #[.pointer (some ⟨gC, 0, none⟩)]) 130
  pos : Var1 wr B3 (.int .i64 (at_ : Int)) 3
  cur : ∃ A, Cur wr gC (N - cp) (cN - cp) A ∧ (cp < N → A = some ⟨b, cp, none⟩)
  str : ys.length = N ∧ AllB ys ∧ ∀ i, i < N → wr.cell? ⟨b, i, none⟩ = some (.int .u8 ((ys.getD i 0 : Nat) : Int))
  kp : Keep w wr
/-- The chunks so far. -/
structure ChR (wr : World) (base b N : Nat) (A : Option Addr) (k c : Nat) (rs : List RowV) : Prop where
  own : OwnRows wr base 22 A k c rs
  lie : ∀ r ∈ rs, LiesIn wr (fun x => x = b ∧ 0 < N) r
section
variable {w wr w' : World} {B1 B2 B3 gC b base N cN at_ cp k c : Nat} {ys : List Nat} {A : Option Addr} {rs : List RowV} {F : Nat → Prop}
theorem ChB.turned (h : ChB w B2 B3 gC b N cN ys wr at_ cp) (t : Turned F wr w') (n2 : ¬ F B2) (n3 : ¬ F B3) (nC : ¬ F gC) (nb : 0 < N → ¬ F b) (nw : ∀ x, F x → w.heap.size ≤ x) : ChB w B2 B3 gC b N cN ys w' at_ cp :=
  ⟨h.fn.turned t n2, h.pos.turned t n3, by
    obtain ⟨A, h1, h2⟩ := h.cur
    exact ⟨A, h1.turned t nC, h2⟩, ⟨h.str.1, h.str.2.1, fun i hi => t.cell (h.str.2.2 i hi) (nb (by omega))⟩, t.keep h.kp nw⟩
theorem ChR.turned (h : ChR wr base b N A k c rs) (t : Turned F wr w') (no : ∀ x, (Value.slice A k c).ownBlock = some x → ¬ F x) (nb : 0 < N → ¬ F b) : ChR w' base b N A k c rs :=
  ⟨OwnRows.turned h.own t no, fun r hr => (h.lie r hr).turned t fun x hx => by rw [hx.1]; exact nb hx.2⟩
/-- One place is written that is none of the others. -/
theorem ChB.set (K : ChK w B1 B2 B3 gC b base N cN) (h : ChB w B2 B3 gC b N cN ys wr at_ cp) (v : Value) : ChB w B2 B3 gC b N cN ys (wr.setCell ⟨B1, 0, none⟩ v) at_ cp := by
  have h1 := K.o1; have h2 := K.o2; have h3 := K.o3; have h4 := K.o4; have h5 := K.ob
  exact h.turned (F := fun x => x = B1) (Turned.set wr _ _ rfl) (fun e => by have e : B2 = B1 := e; omega) (fun e => by have e : B3 = B1 := e; omega) (fun e => by have e : gC = B1 := e; omega) (fun hp e => by have e : b = B1 := e; have := h5 hp; omega) (fun x e => by have e : x = B1 := e; omega)
theorem ChB.moved (K : ChK w B1 B2 B3 gC b base N cN) (h : ChB w B2 B3 gC b N cN ys wr at_ cp) (z : Nat) : ChB w B2 B3 gC b N cN ys (wr.setCell ⟨B3, 0, none⟩ (.int .i64 (z : Int))) z cp := by
  have h1 := K.o1; have h2 := K.o2; have h3 := K.o3; have h4 := K.o4; have h5 := K.ob
  have t : Turned (fun x => x = B3) wr (wr.setCell ⟨B3, 0, none⟩ (.int .i64 (z : Int))) := Turned.set wr _ _ rfl
  exact ⟨h.fn.turned t (fun e => by have e : B2 = B3 := e; omega), h.pos.put, by
    obtain ⟨A, a1, a2⟩ := h.cur
    exact ⟨A, a1.turned t (fun e => by have e : gC = B3 := e; omega), a2⟩, ⟨h.str.1, h.str.2.1, fun i hi => t.cell (h.str.2.2 i hi) (fun e => by have e : b = B3 := e; have := h5 (by omega); omega)⟩, t.keep h.kp fun x e => by have e : x = B3 := e; omega⟩
theorem ChB.handed (K : ChK w B1 B2 B3 gC b base N cN) (h : ChB w B2 B3 gC b N cN ys wr at_ cp) {n m c' : Nat} (hn : cp + n ≤ N) (hm : N - cp - n = m) (hc : cN - cp - n = c') {A' : Option Addr} (hA : cp < N → A' = some ⟨b, cp, none⟩) (hz : 0 < n → cp < N) : ChB w B2 B3 gC b N cN ys (wr.setCell ⟨gC, 0, none⟩ (.slice (dropA A' (cN - cp) n) m c')) at_ (cp + n) := by
  have h1 := K.o1; have h2 := K.o2; have h3 := K.o3; have h4 := K.o4; have h5 := K.ob; have h6 := K.oc
  subst hm; subst hc
  have t : Turned (fun x => x = gC) wr (wr.setCell ⟨gC, 0, none⟩ (.slice (dropA A' (cN - cp) n) (N - cp - n) (cN - cp - n))) := Turned.set wr _ _ rfl
  refine ⟨h.fn.turned t (fun e => by have e : B2 = gC := e; omega), h.pos.turned t (fun e => by have e : B3 = gC := e; omega), ?_, ⟨h.str.1, h.str.2.1, fun i hi => t.cell (h.str.2.2 i hi) (fun e => by have e : b = gC := e; have := h5 (by omega); omega)⟩, t.keep h.kp fun x e => by have e : x = gC := e; omega⟩
  obtain ⟨A, a1, a2⟩ := h.cur
  refine ⟨dropA A' (cN - cp) n, ?_, fun hlt => ?_⟩
  · have := a1.put (A' := dropA A' (cN - cp) n) (m' := N - cp - n) (c' := cN - cp - n)
    rw [Nat.sub_add_eq, Nat.sub_add_eq]; exact this
  · rw [hA (by omega)]
    exact dropA_some b cp (cN - cp) n (by omega)
theorem ChR.piece (h : ChB w B2 B3 gC b N cN ys wr at_ cp) {n : Nat} (h1 : 1 ≤ n) (hn : cp + n ≤ N) : LiesIn wr (fun x => x = b ∧ 0 < N) ⟨some ⟨b, cp, none⟩, n, n, pieceN ys cp (cp + n)⟩ := by
  obtain ⟨s1, s2, s3⟩ := h.str
  refine ⟨?_, fun x hx => s2 x (List.mem_of_mem_drop (List.mem_of_mem_take hx)), Nat.le_refl _, fun _ => ⟨b, cp, rfl, ⟨rfl, by omega⟩, fun i hi => ?_⟩⟩
  · show (pieceN ys cp (cp + n)).length = n
    rw [piece_len (by omega) (by omega)]; omega
  · have hi : i < n := hi
    rw [s3 (cp + i) (by omega)]
    show _ = some (Value.int .u8 (((pieceN ys cp (cp + n)).getD i 0 : Nat) : Int))
    rw [pieceN, Nat.add_sub_cancel_left, List.getD_eq_getElem?_getD, List.getD_eq_getElem?_getD, List.getElem?_take, if_pos hi, List.getElem?_drop]
end
/-- What stands while Chunks works: so many bytes are cut. -/
def ChSt (w : World) (B1 B2 B3 gC b base N cN : Nat) (ys : List Nat) (wr : World) (at_ : Nat) (C : List (List Nat)) : Prop :=
  ChB w B2 B3 gC b N cN ys wr at_ at_ ∧ at_ ≤ N ∧ C.length ≤ at_ ∧ base ≤ wr.heap.size ∧ ∃ A k c rs, Var1 wr B1 (.slice A k c) 49 ∧ ChR wr base b N A k c rs ∧ rowsXs rs = C
set_option maxRecDepth 100000 in
set_option maxHeartbeats 4000000 in
theorem chunk_any (w wr : World) (B1 B2 B3 gC b base N cN at_ n : Nat) (ys : List Nat) (C : List (List Nat)) (K : ChK w B1 B2 B3 gC b base N cN) (h : ChSt w B1 B2 B3 gC b base N cN ys wr at_ C) (h1 : 1 ≤ n) (hn : at_ + n ≤ N) :
    Calls Try.prog 87 #[.int .i64 (n : Int), .pointer (some ⟨B1, 0, none⟩), .pointer (some ⟨B2, 0, none⟩), .pointer (some ⟨B3, 0, none⟩)] wr fun e w' => e = .returned (.tuple #[]) ∧ ChSt w B1 B2 B3 gC b base N cN ys w' (at_ + n) (C ++ [pieceN ys at_ (at_ + n)]) := by
  obtain ⟨hb, hat, hlen, hbase, A, k, c, rs, hv, hr, hx⟩ := h
  have KK := Lib.hid K
  have hkl : k ≤ 100000 := by
    have e1 := hr.own.length
    have e2 : C.length = rs.length := by rw [← hx]; simp [rowsXs]
    have := K.oc.2
    omega
  have hnb : n ≤ 100000 := by have := K.oc.2; omega
  have hab : at_ ≤ 100000 := by have := K.oc.2; omega
  obtain ⟨Ac, hcur, hAc⟩ := hb.cur
  have hAc := hAc (by omega)
  subst hAc
  obtain ⟨w0, hw0⟩ : ∃ w0, wr.drew = w0 := ⟨_, rfl⟩
  have k0 : Turned (fun _ => False) wr w0 := by rw [← hw0]; exact Turned.of_keep (Keep.drew (Keep.refl wr))
  have HB0 := Lib.hid (hb.turned k0 (fun e => e) (fun e => e) (fun e => e) (fun _ e => e) (fun x e => e.elim))
  have HR0 := Lib.hid (hr.turned k0 (fun x _ e => e) (fun _ e => e))
  have HV0 := Lib.hid (hv.turned k0 (fun e => e))
  have HC0 := Lib.hid (hcur.turned k0 (fun e => e))
  have HS0 : Hid (base ≤ w0.heap.size) := Nat.le_trans hbase k0.size
  have c1 := HV0.out.cell
  have c2 := HB0.out.fn.cell
  have HX := Lib.hid hx
  have H1 := Lib.hid h1
  obtain ⟨m', hm'⟩ : ∃ m', N - at_ - n = m' := ⟨_, rfl⟩
  obtain ⟨c', hc'⟩ : ∃ c', cN - at_ - n = c' := ⟨_, rfl⟩
  have HH := Lib.hid (hand_any gC n (N - at_) (cN - at_) (some ⟨b, at_, none⟩) (by omega) (by have := K.oc.1; omega) w0 HC0.out)
  obtain ⟨w1, hw1⟩ : ∃ w1, w0.setCell ⟨gC, 0, none⟩ (.slice (dropA (some ⟨b, at_, none⟩) (cN - at_) n) (N - at_ - n) (cN - at_ - n)) = w1 := ⟨_, rfl⟩
  rw [hw1] at HH
  have T1 : Hid (Turned (fun x => x = gC) w0 w1) := by show Turned _ _ _; rw [← hw1]; exact Turned.set w0 _ _ rfl
  have HB1 : Hid (ChB w B2 B3 gC b N cN ys w1 at_ (at_ + n)) := by
    show ChB _ _ _ _ _ _ _ _ _ _ _
    rw [← hw1]
    exact HB0.out.handed K hn rfl rfl (fun _ => rfl) (fun _ => by omega)
  have HR1 : Hid (ChR w1 base b N A k c rs) := HR0.out.turned T1.out (fun x hx e => by
    have e : x = gC := e
    have := HR0.out.own.rowLe x hx
    have := KK.out.o3; have := KK.out.o4; have := KK.out.o5; omega) (fun hp e => by
    have e : b = gC := e
    have := KK.out.ob hp; omega)
  have HV1 : Hid (Var1 w1 B1 (.slice A k c) 49) := HV0.out.turned T1.out (fun e => by have e : B1 = gC := e; have := KK.out.o2; omega)
  have HS1 : Hid (base ≤ w1.heap.size) := Nat.le_trans HS0.out T1.out.size
  have HL1 := Lib.hid (ChR.piece HB0.out h1 hn)
  have HL1' : Hid (LiesIn w1 (fun x => x = b ∧ 0 < N) ⟨some ⟨b, at_, none⟩, n, n, pieceN ys at_ (at_ + n)⟩) := HL1.out.turned T1.out fun x hx e => by
    have e : x = gC := e
    have := KK.out.ob hx.2; omega
  have d1 := HV1.out.cell
  have d2 := HB1.out.fn.cell
  obtain ⟨w2, hw2⟩ : ∃ w2, w1.alloc (.cells #[.slice (some ⟨b, at_, none⟩) n n] 22) = w2 := ⟨_, rfl⟩
  have T2 : Hid (Turned (fun _ => False) w1 w2) := by show Turned _ _ _; rw [← hw2]; exact Turned.of_keep ((Keep.refl w1).alloc _ _)
  have HB2 := Lib.hid (HB1.out.turned T2.out (fun e => e) (fun e => e) (fun e => e) (fun _ e => e) (fun x e => e.elim))
  have HR2 := Lib.hid (HR1.out.turned T2.out (fun x _ e => e) (fun _ e => e))
  have HV2 := Lib.hid (HV1.out.turned T2.out (fun e => e))
  have HL2 := Lib.hid (HL1'.out.turned T2.out fun x _ e => e)
  have HS2 : Hid (base ≤ w2.heap.size) := Nat.le_trans HS1.out T2.out.size
  obtain ⟨g2, hg2⟩ : ∃ g2, w1.heap.size = g2 := ⟨_, rfl⟩
  have l2 : w2.cell? ⟨g2, 0, none⟩ = some (.slice (some ⟨b, at_, none⟩) n n) := by rw [← hw2, ← hg2, World.cell?_alloc_new]; rfl
  have e1 := HV2.out.cell
  have e2 := HB2.out.fn.cell
  have HW2 := Lib.hid (And.intro hw2 hg2)
  have hAp : ∀ (A2 : Option Addr) (c2 : Nat) (w3 : World), OwnRows w3 base 22 A2 (k + 1) c2 (rs ++ [⟨some ⟨b, at_, none⟩, n, n, pieceN ys at_ (at_ + n)⟩]) → w2.grownBy w3 (Value.slice A k c).ownBlock → ((w3.setCell ⟨B1, 0, none⟩ (.slice A2 (k + 1) c2)).cell? ⟨B2, 0, none⟩ = some (.func (.func 111) #[] #[.pointer (some ⟨gC, 0, none⟩)])) ∧ w3.cell? ⟨B2, 0, none⟩ = some (.func (.func 111) #[] #[.pointer (some ⟨gC, 0, none⟩)]) ∧ Hid (Var1 w3 B1 (.slice A k c) 49) ∧ (w3.setCell ⟨B1, 0, none⟩ (.slice A2 (k + 1) c2)).cell? ⟨B3, 0, none⟩ = some (.int .i64 (at_ : Int)) ∧ (w3.setCell ⟨B1, 0, none⟩ (.slice A2 (k + 1) c2)).frozen? ⟨B3, 0, none⟩ = false ∧
      Hid (ChSt w B1 B2 B3 gC b base N cN ys ((w3.setCell ⟨B1, 0, none⟩ (.slice A2 (k + 1) c2)).setCell ⟨B3, 0, none⟩ (.int .i64 (((at_ + n : Nat)) : Int))) (at_ + n) (C ++ [pieceN ys at_ (at_ + n)])) := fun A2 c2 w3 h3 g3 => by
    have t3 : Turned (fun x => (Value.slice A k c).ownBlock = some x) w2 w3 := Turned.of_grown (F := fun x => (Value.slice A k c).ownBlock = some x) g3 fun i e => e
    have hge : ∀ x, (Value.slice A k c).ownBlock = some x → base ≤ x := fun x hx => HR2.out.own.rowLe x hx
    have o1 := KK.out.o1; have o2 := KK.out.o2; have o3 := KK.out.o3; have o4 := KK.out.o4; have o5 := KK.out.o5
    have hb3 := HB2.out.turned t3 (fun e => by have := hge B2 e; omega) (fun e => by have := hge B3 e; omega) (fun e => by have := hge gC e; omega) (fun hp e => by have := hge b e; have := KK.out.ob hp; omega) (fun x e => by have := hge x e; omega)
    have hv3 := HV2.out.turned t3 (fun e => by have := hge B1 e; omega)
    have hr3 : ChR w3 base b N A2 (k + 1) c2 (rs ++ [⟨some ⟨b, at_, none⟩, n, n, pieceN ys at_ (at_ + n)⟩]) := ⟨h3, fun r hr => by
      rcases List.mem_append.1 hr with hr | hr
      · exact (HR2.out.lie r hr).turned t3 fun x hx e => by have := hge x e; have h6 := KK.out.ob hx.2; have h7 := hx.1; omega
      · rw [List.mem_singleton] at hr; subst hr
        exact HL2.out.turned t3 fun x hx e => by have := hge x e; have h6 := KK.out.ob hx.2; have h7 := hx.1; omega⟩
    have hb4 := hb3.set KK.out (.slice A2 (k + 1) c2)
    have t4 : Turned (fun x => x = B1) w3 (w3.setCell ⟨B1, 0, none⟩ (.slice A2 (k + 1) c2)) := Turned.set w3 _ _ rfl
    have hv4 : Var1 (w3.setCell ⟨B1, 0, none⟩ (.slice A2 (k + 1) c2)) B1 (.slice A2 (k + 1) c2) 49 := hv3.put
    have hr4 := hr3.turned t4 (fun x hx e => by have e : x = B1 := e; have := h3.rowLe x hx; omega) (fun hp e => by have e : b = B1 := e; have := KK.out.ob hp; omega)
    have hb5 := hb4.moved KK.out (at_ + n)
    have t5 : Turned (fun x => x = B3) (w3.setCell ⟨B1, 0, none⟩ (.slice A2 (k + 1) c2)) ((w3.setCell ⟨B1, 0, none⟩ (.slice A2 (k + 1) c2)).setCell ⟨B3, 0, none⟩ (.int .i64 (((at_ + n : Nat)) : Int))) := Turned.set _ _ _ rfl
    have hv5 := hv4.turned t5 (fun e => by have e : B1 = B3 := e; omega)
    have hr5 := hr4.turned t5 (fun x hx e => by have e : x = B3 := e; have := h3.rowLe x hx; omega) (fun hp e => by have e : b = B3 := e; have := KK.out.ob hp; omega)
    refine ⟨hb4.fn.cell, hb3.fn.cell, hv3, hb4.pos.cell, hb4.pos.free, hb5, hn, by rw [List.length_append]; have := H1.out; simp; omega, ?_, A2, k + 1, c2, _, hv5, hr5, by rw [← HX.out]; simp [rowsXs]⟩
    exact Nat.le_trans HS2.out (Nat.le_trans t3.size (Nat.le_trans t4.size t5.size))
  have HAP := Lib.hid hAp
  have wr1 : IntKind.i64.wrap ((at_ : Int) + (n : Int)) = ((at_ + n : Nat) : Int) := by rw [show (at_ : Int) + (n : Int) = ((at_ + n : Nat) : Int) by omega]; exact IntWalk.i64_in _ (by omega)
  have HO2 := Lib.hid HR2.out.own
  have HW0 := Lib.hid hw0
  clear hb hr hv hcur hx hAp hw1 hw2 hg2 hw0 k0 hm' hc'
  go_enter Try.func87, Try.ntmps87
  go_wp2_with fail
  refine wp_region_noPanic ?_
  refine wp_region_held_drew (S := fun wz => wz.cell? ⟨B2, 0, none⟩ = some (.func (.func 111) #[] #[.pointer (some ⟨gC, 0, none⟩)])) (by kernel_rfl) (by rw [HW0.out]; exact c2) (fun hHeld => ?_)
  rw [HW0.out] at hHeld ⊢
  refine wpAnyH_take (i := 1) (v := ?_) rfl (by kernel_rfl) (by kernel_rfl) (by kernel_rfl) (fun _ _ _ h => h) (Or.inl ⟨by rfl, ?_⟩) hHeld ?_
  rotate_left
  · intro wq hSw
    have q0 := hSw
    go_simp
    all_goals with_reducible rfl
  try simp only [Act.put, List.getElem_toArray, List.getElem_cons_succ, List.getElem_cons_zero, List.setIfInBounds_toArray, List.set_cons_zero, List.set_cons_succ]
  refine wpAnyH_take (i := 2) (v := ?_) rfl (by kernel_rfl) (by kernel_rfl) (by kernel_rfl) (fun _ _ _ h => h) (Or.inl ⟨by rfl, ?_⟩) hHeld ?_
  rotate_left
  · intro wq hSw
    go_simp
    all_goals with_reducible rfl
  try simp only [Act.put, List.getElem_toArray, List.getElem_cons_succ, List.getElem_cons_zero, List.setIfInBounds_toArray, List.set_cons_zero, List.set_cons_succ]
  refine wpAnyH_ready (rs := [0, 3]) (by kernel_rfl) (by simp) ?_
  refine AllReadyH.cons rfl (fun K hK => ?_) (AllReadyH.cons rfl (fun K hK => ?_) AllReadyH.nil)
  · go_simp
    refine hK.out _ _ hHeld (fun hHeld => ?_)
    clear hK K
    try simp only [Act.put, List.getElem_toArray, List.getElem_cons_succ, List.getElem_cons_zero, List.setIfInBounds_toArray, List.set_cons_zero, List.set_cons_succ]
    refine wpAnyH_ready (rs := [3]) (by kernel_rfl) (by simp) ?_
    refine AllReadyH.cons rfl (fun K hK => ?_) AllReadyH.nil
    go_simp
    refine HH.out.mono ?_
    rintro e w1' ⟨rfl, rfl⟩
    refine hK.out _ _ d2 (fun hHeld => ?_)
    clear hK K c1 c2
    try simp only [Act.put, List.getElem_toArray, List.getElem_cons_succ, List.getElem_cons_zero, List.setIfInBounds_toArray, List.set_cons_zero, List.set_cons_succ]
    refine wpAnyH_ready (rs := [4]) (by kernel_rfl) (by simp) ?_
    refine AllReadyH.cons rfl (fun K hK => ?_) AllReadyH.nil
    go_simp
    rw [HW2.out.1, HW2.out.2]
    refine hK.out _ _ e2 (fun hHeld => ?_)
    clear hK K
    try simp only [Act.put, List.getElem_toArray, List.getElem_cons_succ, List.getElem_cons_zero, List.setIfInBounds_toArray, List.set_cons_zero, List.set_cons_succ]
    refine wpAnyH_ready (rs := [5]) (by kernel_rfl) (by simp) ?_
    refine AllReadyH.cons rfl (fun K hK => ?_) AllReadyH.nil
    refine wp_append_row _ _ 49 rfl ⟨some ⟨b, at_, none⟩, n, n, pieceN ys at_ (at_ + n)⟩ Try.underlying49 infoRow rfl HO2.out rfl l2 (by omega) HS2.out ?_
    intro A2 c2 w3 h3 g3 _
    obtain ⟨y1, y2, y3, y4, y5, y6⟩ := HAP.out A2 c2 w3 h3 g3
    refine hK.out _ _ y2 (fun hHeld => ?_)
    clear hK K h3 g3
    try simp only [Act.put, List.getElem_toArray, List.getElem_cons_succ, List.getElem_cons_zero, List.setIfInBounds_toArray, List.set_cons_zero, List.set_cons_succ]
    have z1 := y3.out.cell
    have z2 := y3.out.free
    refine wpAnyH_ready (rs := [6]) (by kernel_rfl) (by simp) ?_
    refine AllReadyH.cons rfl (fun K hK => ?_) AllReadyH.nil
    go_simp
    refine hK.out _ _ y1 (fun hHeld => ?_)
    clear hK K z1 z2
    try simp only [Act.put, List.getElem_toArray, List.getElem_cons_succ, List.getElem_cons_zero, List.setIfInBounds_toArray, List.set_cons_zero, List.set_cons_succ]
    refine wpAnyH_done (by kernel_rfl) ?_ _
    refine NoPanic.normal ?_
    clear hHeld
    generalize w3.setCell ⟨B1, 0, none⟩ (.slice A2 (k + 1) c2) = w4 at *
    go_wp2_with fail
    go_end0
    exact ⟨rfl, y6.out⟩
  · go_simp
    refine HH.out.mono ?_
    rintro e w1' ⟨rfl, rfl⟩
    refine hK.out _ _ d2 (fun hHeld => ?_)
    clear hK K c1 c2
    try simp only [Act.put, List.getElem_toArray, List.getElem_cons_succ, List.getElem_cons_zero, List.setIfInBounds_toArray, List.set_cons_zero, List.set_cons_succ]
    refine wpAnyH_ready (rs := [0, 4]) (by kernel_rfl) (by simp) ?_
    refine AllReadyH.cons rfl (fun K hK => ?_) (AllReadyH.cons rfl (fun K hK => ?_) AllReadyH.nil)
    · go_simp
      refine hK.out _ _ hHeld (fun hHeld => ?_)
      clear hK K
      try simp only [Act.put, List.getElem_toArray, List.getElem_cons_succ, List.getElem_cons_zero, List.setIfInBounds_toArray, List.set_cons_zero, List.set_cons_succ]
      refine wpAnyH_ready (rs := [4]) (by kernel_rfl) (by simp) ?_
      refine AllReadyH.cons rfl (fun K hK => ?_) AllReadyH.nil
      go_simp
      rw [HW2.out.1, HW2.out.2]
      refine hK.out _ _ e2 (fun hHeld => ?_)
      clear hK K
      try simp only [Act.put, List.getElem_toArray, List.getElem_cons_succ, List.getElem_cons_zero, List.setIfInBounds_toArray, List.set_cons_zero, List.set_cons_succ]
      refine wpAnyH_ready (rs := [5]) (by kernel_rfl) (by simp) ?_
      refine AllReadyH.cons rfl (fun K hK => ?_) AllReadyH.nil
      refine wp_append_row _ _ 49 rfl ⟨some ⟨b, at_, none⟩, n, n, pieceN ys at_ (at_ + n)⟩ Try.underlying49 infoRow rfl HO2.out rfl l2 (by omega) HS2.out ?_
      intro A2 c2 w3 h3 g3 _
      obtain ⟨y1, y2, y3, y4, y5, y6⟩ := HAP.out A2 c2 w3 h3 g3
      refine hK.out _ _ y2 (fun hHeld => ?_)
      clear hK K h3 g3
      try simp only [Act.put, List.getElem_toArray, List.getElem_cons_succ, List.getElem_cons_zero, List.setIfInBounds_toArray, List.set_cons_zero, List.set_cons_succ]
      have z1 := y3.out.cell
      have z2 := y3.out.free
      refine wpAnyH_ready (rs := [6]) (by kernel_rfl) (by simp) ?_
      refine AllReadyH.cons rfl (fun K hK => ?_) AllReadyH.nil
      go_simp
      refine hK.out _ _ y1 (fun hHeld => ?_)
      clear hK K z1 z2
      try simp only [Act.put, List.getElem_toArray, List.getElem_cons_succ, List.getElem_cons_zero, List.setIfInBounds_toArray, List.set_cons_zero, List.set_cons_succ]
      refine wpAnyH_done (by kernel_rfl) ?_ _
      refine NoPanic.normal ?_
      clear hHeld
      generalize w3.setCell ⟨B1, 0, none⟩ (.slice A2 (k + 1) c2) = w4 at *
      go_wp2_with fail
      go_end0
      exact ⟨rfl, y6.out⟩
    · go_simp
      rw [HW2.out.1, HW2.out.2]
      refine hK.out _ _ e2 (fun hHeld => ?_)
      clear hK K
      try simp only [Act.put, List.getElem_toArray, List.getElem_cons_succ, List.getElem_cons_zero, List.setIfInBounds_toArray, List.set_cons_zero, List.set_cons_succ]
      refine wpAnyH_ready (rs := [0]) (by kernel_rfl) (by simp) ?_
      refine AllReadyH.cons rfl (fun K hK => ?_) AllReadyH.nil
      go_simp
      refine hK.out _ _ hHeld (fun hHeld => ?_)
      clear hK K
      try simp only [Act.put, List.getElem_toArray, List.getElem_cons_succ, List.getElem_cons_zero, List.setIfInBounds_toArray, List.set_cons_zero, List.set_cons_succ]
      refine wpAnyH_ready (rs := [5]) (by kernel_rfl) (by simp) ?_
      refine AllReadyH.cons rfl (fun K hK => ?_) AllReadyH.nil
      refine wp_append_row _ _ 49 rfl ⟨some ⟨b, at_, none⟩, n, n, pieceN ys at_ (at_ + n)⟩ Try.underlying49 infoRow rfl HO2.out rfl l2 (by omega) HS2.out ?_
      intro A2 c2 w3 h3 g3 _
      obtain ⟨y1, y2, y3, y4, y5, y6⟩ := HAP.out A2 c2 w3 h3 g3
      refine hK.out _ _ y2 (fun hHeld => ?_)
      clear hK K h3 g3
      try simp only [Act.put, List.getElem_toArray, List.getElem_cons_succ, List.getElem_cons_zero, List.setIfInBounds_toArray, List.set_cons_zero, List.set_cons_succ]
      have z1 := y3.out.cell
      have z2 := y3.out.free
      refine wpAnyH_ready (rs := [6]) (by kernel_rfl) (by simp) ?_
      refine AllReadyH.cons rfl (fun K hK => ?_) AllReadyH.nil
      go_simp
      refine hK.out _ _ y1 (fun hHeld => ?_)
      clear hK K z1 z2
      try simp only [Act.put, List.getElem_toArray, List.getElem_cons_succ, List.getElem_cons_zero, List.setIfInBounds_toArray, List.set_cons_zero, List.set_cons_succ]
      refine wpAnyH_done (by kernel_rfl) ?_ _
      refine NoPanic.normal ?_
      clear hHeld
      generalize w3.setCell ⟨B1, 0, none⟩ (.slice A2 (k + 1) c2) = w4 at *
      go_wp2_with fail
      go_end0
      exact ⟨rfl, y6.out⟩
end Go.Proofs.Ytcafofffgmaepaa
/- The landed pad: Chunks. -/
namespace Go.Proofs.Ytcafofffgmaepaa
open Go.RowKit
set_option linter.unusedVariables false
set_option linter.unusedSimpArgs false
/-- What Chunks hands back: rows of its own, and what is open. -/
def NewCh (w : World) (M : List (List Nat)) (O : List Nat) (er : Int) (e : Ending) (w' : World) : Prop :=
  ∃ A n c A' n' c' rs, e = .returned (.tuple #[.slice A n c, .slice A' n' c', .int .i64 er]) ∧ Laying w w' A n c rs ∧ rowsXs rs = M ∧ LiesIn w' (fun b => w.heap.size ≤ b ∧ b < w'.heap.size) ⟨A', n', c', O⟩ ∧ Keep w w'
theorem NewCh.nil {w w' : World} (k : Keep w w') (er : Int) : NewCh w [] [] er (.returned (.tuple #[.slice none 0 0, .slice none 0 0, .int .i64 er])) w' :=
  ⟨none, 0, 0, none, 0, 0, [], rfl, (Laying.nothing w).later k, rfl, LiesIn.nothing _ _, k⟩
theorem pchunks_out (g s : Int) (h : ¬ MayG g s) (A A' : Option Addr) (n c n' c' : Nat) (w : World) : Calls Try.prog 45 #[.slice A n c, .slice A' n' c', .int .i64 g, .int .i64 s] w (NewCh w [] [] 1) := by
  go_enter Try.func45, Try.ntmps45
  go_wp2_with fail
  refine (proom_out g s h w).mono ?_
  rintro e w1 ⟨rfl, rfl⟩
  go_wp2_with fail
  go_ret3
  exact NewCh.nil (Keep.refl w) 1
theorem pchunks_bad (G S P n m : Nat) (g1 : 1 ≤ G) (g2 : G ≤ 255) (s1 : 1 ≤ S) (s2 : S ≤ 65535) (hP : (G : Int) * (S : Int) = (P : Int)) (p1 : 5 ≤ P) (p2 : P ≤ 16711425) (hn : n ≤ 140737488351232) (hm : m ≤ 140737488351232) (A A' : Option Addr) (c c' : Nat) (l : List Int) (w : World) (h' : IntsAt w w.heap.size A' m l) (hbad : ¬ GoodC n l m) :
    Calls Try.prog 45 #[.slice A n c, .slice A' m c', .int .i64 (G : Int), .int .i64 (S : Int)] w (NewCh w [] [] 1) := by
  have HI := Lib.hid h'
  have HB := Lib.hid hbad
  clear h' hbad
  go_enter Try.func45, Try.ntmps45
  go_wp2_with fail
  refine (proom_in G S P g1 g2 s1 s2 hP p1 p2 w).mono ?_
  rintro e w1 ⟨rfl, rfl⟩
  go_wp2_with fail
  refine (arecuts_any n m hn hm A' c' l w HI.out).mono ?_
  rintro e w1 ⟨⟨q, rfl, hq⟩, rfl⟩
  have hq' : q = false := by
    cases q with
    | true => exact absurd (hq.1 rfl) HB.out
    | false => rfl
  clear hq
  subst hq'
  go_wp2_with fail
  go_ret3
  exact NewCh.nil (Keep.refl w) 1
theorem good_of {n m : Nat} {cs : List Nat} (hl : cs.length = m) (hle : ∀ x ∈ cs, x ≤ n) (hso : ∀ (i j x y : Nat), i ≤ j → cs[i]? = some x → cs[j]? = some y → x ≤ y) : GoodC n (cs.map fun x : Nat => (x : Int)) m := fun i z hi hz => by
  rw [List.getElem?_map] at hz
  cases hx : cs[i]? with
  | none => rw [hx] at hz; cases hz
  | some x =>
    rw [hx] at hz
    have hz : (x : Int) = z := by simpa using hz
    subst hz
    refine ⟨by omega, by have := hle x (List.mem_of_getElem? hx); omega, fun y h0 hy => ?_⟩
    rw [List.getElem?_map] at hy
    cases hy' : cs[i - 1]? with
    | none => rw [hy'] at hy; cases hy
    | some y' =>
      rw [hy'] at hy
      have hy : (y' : Int) = y := by simpa using hy
      subst hy
      have := hso (i - 1) i y' x (by omega) hy' hx
      omega
set_option maxRecDepth 100000 in
set_option maxHeartbeats 4000000 in
theorem pchunks_in (G S P n m : Nat) (g1 : 1 ≤ G) (g2 : G ≤ 255) (s1 : 1 ≤ S) (s2 : S ≤ 65535) (hP : (G : Int) * (S : Int) = (P : Int)) (p1 : 5 ≤ P) (p2 : P ≤ 16711425) (hn : n ≤ 100000) (hm : m ≤ 140737488351232) (A A' : Option Addr) (c c' : Nat) (xs cs : List Nat) (w : World) (h : Bytes w w.heap.size A n xs) (hc : n ≤ c) (h' : IntsAt w w.heap.size A' m (cs.map fun x : Nat => (x : Int))) (hle : ∀ x ∈ cs, x ≤ n) (hso : ∀ (i j x y : Nat), i ≤ j → cs[i]? = some x → cs[j]? = some y → x ≤ y) :
    Calls Try.prog 45 #[.slice A n c, .slice A' m c', .int .i64 (G : Int), .int .i64 (S : Int)] w (NewCh w (chunkN (P - 4) cs xs (n + 1)).1 (xs.drop (chunkN (P - 4) cs xs (n + 1)).2) 0) := by
  have hmf : ∀ (fn : Fn) (first cap : Array Value) (w : World), (Instr.makeFunc fn first cap).run Try.prog w = .ok (.func fn first cap) w := fun _ _ _ _ => rfl
  have H := Lib.hid h
  have HI := Lib.hid h'
  have HXL : Hid (xs.length = n) := h.length
  have HML : Hid (cs.length = m) := by have := h'.1; rwa [List.length_map] at this
  have HLE := Lib.hid hle
  have HSO := Lib.hid hso
  obtain ⟨room, hroom⟩ : ∃ room, P - 4 = room := ⟨_, rfl⟩
  have hr1 : 1 ≤ room := by omega
  have hrb : room ≤ 16711421 := by omega
  have HRC := Lib.hid (proom_in G S P g1 g2 s1 s2 hP p1 p2 w)
  rw [hroom] at HRC ⊢
  have HAC := Lib.hid (arecuts_any n m (by omega) hm A' c' _ w h')
  have HGC := Lib.hid (good_of HML.out hle hso)
  clear h h' hle hso hroom hP
  go_enter Try.func45, Try.ntmps45
  go_wp2_with fail
  refine HRC.out.mono ?_
  rintro e w1 ⟨rfl, rfl⟩
  go_wp2_with fail
  refine HAC.out.mono ?_
  rintro e w1 ⟨⟨q, rfl, hq⟩, rfl⟩
  obtain rfl : q = true := hq.2 HGC.out
  clear hq
  go_wp2_with fail
  refine (clone_any w.heap.size n c A xs _ (H.out.keep (Nat.le_refl _) ((Keep.refl w).alloc _ _)) (by simp) (by omega)).mono ?_
  rintro e w2 ⟨A2, n2, c2, rfl, o2, k2⟩
  have hn2 : n = n2 := by have := o2.length; rw [HXL.out] at this; exact this
  subst hn2
  go_wp2_with fail
  refine (handing_any A2 n c2 w2).mono ?_
  rintro e w3 ⟨rfl, hw3⟩
  obtain ⟨gC, hgC⟩ : ∃ gC, w2.heap.size = gC := ⟨_, rfl⟩
  obtain ⟨B2, hB2⟩ : ∃ B2, w3.heap.size = B2 := ⟨_, rfl⟩
  rw [hgC]
  obtain ⟨B1, hB1⟩ : ∃ B1, w.heap.size = B1 := ⟨_, rfl⟩
  obtain ⟨b, hb⟩ : ∃ b, 0 < n → A2 = some ⟨b, 0, none⟩ ∧ B1 < b ∧ b < gC := by
    by_cases h0 : 0 < n
    · obtain ⟨g, e1, e2, e3⟩ := o2.block h0
      exact ⟨g, fun _ => ⟨e1, by simp at e2; omega, by omega⟩⟩
    · exact ⟨0, fun h => absurd h h0⟩
  have hgw : B1 < gC := by have := k2.size; simp at this; omega
  have hB2g : B2 = gC + 1 := by rw [← hB2, hw3, ← hgC]; simp
  have hcn : n ≤ c2 := own_le o2
  have q1 : ((w3.alloc (.cells #[.nilFunc] 130)).alloc (.cells #[.int .i64 0] 3)).cell? ⟨B2, 0, none⟩ = some .nilFunc := by
    rw [World.cell?_alloc_past _ _ _ (by simp; omega), ← hB2, World.cell?_alloc_at _ _ _ _ rfl]; rfl
  have q2 : ((w3.alloc (.cells #[.nilFunc] 130)).alloc (.cells #[.int .i64 0] 3)).frozen? ⟨B2, 0, none⟩ = false := by
    rw [World.frozen?_alloc_past _ _ _ (by simp; omega), ← hB2]; exact World.frozen?_alloc_at _ _ _ _ rfl
  have HK : Hid (ChK w B1 B2 (B2 + 1) gC b (B2 + 2) n c2) := ⟨by omega, hgw, by omega, by omega, by omega, fun h0 => ⟨(hb h0).2.1, (hb h0).2.2⟩, hcn, hn⟩
  obtain ⟨w4, hw4⟩ : ∃ w4, w3.alloc (.cells #[.func (.func 111) #[] #[.pointer (some ⟨gC, 0, none⟩)]] 130) = w4 := ⟨_, rfl⟩
  obtain ⟨w5, hw5⟩ : ∃ w5, w4.alloc (.cells #[.int .i64 0] 3) = w5 := ⟨_, rfl⟩
  have k1 : Keep w (w.alloc (.cells #[.slice none 0 0] 49)) := (Keep.refl w).alloc _ _
  have k3 : Keep w2 w3 := by rw [hw3]; exact (Keep.refl w2).alloc _ _
  have k4 : Keep w3 w4 := by rw [← hw4]; exact (Keep.refl w3).alloc _ _
  have k5 : Keep w4 w5 := by rw [← hw5]; exact (Keep.refl w4).alloc _ _
  have hs4 : w4.heap.size = B2 + 1 := by rw [← hw4, ← hB2]; simp
  have hs5 : w5.heap.size = B2 + 2 := by rw [← hw5]; simp [hs4]
  have v2 : Var1 w4 B2 (.func (.func 111) #[] #[.pointer (some ⟨gC, 0, none⟩)]) 130 := by rw [← hw4, ← hB2]; exact heap_alloc_new w3 _
  have v3 : Var1 w5 (B2 + 1) (.int .i64 ((0 : Nat) : Int)) 3 := by rw [← hw5, ← hs4]; exact heap_alloc_new w4 _
  have vC : Cur w3 gC n c2 A2 := by rw [hw3, ← hgC]; exact heap_alloc_new w2 _
  have v1 : Var1 (w.alloc (.cells #[.slice none 0 0] 49)) B1 (.slice none 0 0) 49 := by rw [← hB1]; exact heap_alloc_new w _
  have HST : Hid (ChSt w B1 B2 (B2 + 1) gC b (B2 + 2) n c2 xs w5 0 []) := by
    refine ⟨⟨v2.turned (F := fun _ => False) (Turned.of_keep k5) (fun e => e), v3, ⟨A2, by rw [Nat.sub_zero, Nat.sub_zero]; exact (vC.keep k4).keep k5, fun h0 => (hb h0).1⟩, ⟨HXL.out, o2.2, fun j hj => ?_⟩, ((k1.trans k2).trans k3).trans (k4.trans k5)⟩, Nat.zero_le _, Nat.le_refl _, by rw [hs5]; exact Nat.le_refl _, none, 0, 0, [], ?_, ⟨OwnRows.none_ _ _ _, fun r hr => by simp at hr⟩, rfl⟩
    · obtain ⟨e1, e2, e3⟩ := hb (by omega)
      subst e1
      have := (o2.keep (k3.trans (k4.trans k5))).cell (i := j) hj
      exact this
    · exact v1.turned (F := fun _ => False) (Turned.of_keep (k2.trans (k3.trans (k4.trans k5)))) (fun e => e)
  have HW5 := Lib.hid (And.intro hw4 hw5)
  have HB1 := Lib.hid hB1
  clear hw3 hgC o2 k2 hb hB2g k1 k3 k4 k5 hs4 hs5 v2 v3 vC v1 hw4 hw5 hgw hcn
  have q3 : (w4.alloc (.cells #[.int .i64 0] 3)).cell? ⟨B2 + 1, 0, none⟩ = some (.int .i64 0) := by
    rw [HW5.out.2]; exact HST.out.1.pos.cell
  go_wp2_with fail
  rw [HW5.out.1, HW5.out.2]
  clear q1 q2 q3
  go_loopw [40] (fun iv wr => ∃ (i at_ : Nat) (C : List (List Nat)), i ≤ m ∧ iv = .int .i64 i ∧ ChSt w B1 B2 (B2 + 1) gC b (B2 + 2) n c2 xs wr at_ C ∧ chunkN room cs xs (at_ + 1) = (C, at_) ∧ (∀ (j x : Nat), j < i → cs[j]? = some x → x ≤ at_) ∧ (∀ (j x : Nat), i ≤ j → cs[j]? = some x → at_ ≤ x)) (fun iv _ => m - (intOf iv).toNat)
  case atStart => exact ⟨0, 0, [], by omega, rfl, HST.out, chunk_start hr1, fun j x hj => by omega, fun j x _ _ => Nat.zero_le _⟩
  case round =>
    clear HST
    obtain ⟨i, at_, C, hi, rfl, hst, hch, hlo, hhi⟩ := hrel
    have HS := Lib.hid hst
    have HC := Lib.hid hch
    have HLO := Lib.hid hlo
    have HHI := Lib.hid hhi
    have f1 : (0 : Int) ≤ (i : Int) := Int.natCast_nonneg _
    clear hst hch hlo hhi
    by_cases hlt : i < m
    · have f2 : (i : Int) < (m : Int) := by omega
      obtain ⟨bI, off, rfl, hbI, hcell⟩ := (HI.out.keep (Nat.le_refl _) HS.out.1.kp).2 (by omega)
      have hx := List.getElem?_eq_getElem (l := cs) (i := i) (by rw [HML.out]; exact hlt)
      obtain ⟨x, hxx⟩ : ∃ x, cs[i]'(by rw [HML.out]; exact hlt) = x := ⟨_, rfl⟩
      rw [hxx] at hx
      have c1 := hcell i (x : Int) (by rw [List.getElem?_map, hx]; rfl)
      have hxn := HLE.out x (List.mem_of_getElem? hx)
      have HX := Lib.hid hx
      have hax := HHI.out i x (Nat.le_refl _) hx
      clear hx hxx hcell hbI
      go_wp2_with fail
      go_loopg [] (x - at_) (fun g wy => ∃ (a2 : Nat) (C2 : List (List Nat)), a2 + g = x ∧ at_ ≤ a2 ∧ ChSt w B1 B2 (B2 + 1) gC b (B2 + 2) n c2 xs wy a2 C2 ∧ chunkN room cs xs (a2 + 1) = (C2, a2))
      case atStart => exact ⟨at_, C, by omega, Nat.le_refl _, HS.out, HC.out⟩
      case round =>
        clear HS HC c1
        obtain ⟨a2, C2, hg, haa, hst, hch⟩ := hrel
        have HS := Lib.hid hst
        have HC := Lib.hid hch
        have p0 := hst.1.pos.cell
        clear hst hch
        cases gk with
        | zero =>
          obtain rfl : a2 = x := by omega
          go_wp2_with fail
          go_roundw
          case rel => exact ⟨i + 1, a2, C2, by omega, by go_num, HS.out, HC.out, fun j y hj hy => HSO.out j i y a2 (by omega) hy HX.out, fun j y hj hy => HSO.out i j a2 y (by omega) HX.out hy⟩
          case measure => simp [intOf]; omega
        | succ g =>
          have e1 : (a2 : Int) < (x : Int) := by omega
          obtain ⟨d, hd⟩ : ∃ d, x - a2 = d := ⟨_, rfl⟩
          have e2 : IntKind.i64.wrap ((x : Int) - (a2 : Int)) = (d : Int) := by rw [show (x : Int) - (a2 : Int) = (d : Int) by omega]; exact IntWalk.i64_in _ (by omega)
          have hno : Hid (∀ t, a2 < t → t < x → t ∉ cs) := fun t h1 h2 h3 => by
            obtain ⟨j, hj, e⟩ := List.getElem_of_mem h3
            have hjt : cs[j]? = some t := by rw [List.getElem?_eq_getElem hj, e]
            rcases Nat.lt_or_ge j i with h4 | h4
            · have := HLO.out j t h4 hjt; omega
            · have := HSO.out i j x t h4 HX.out hjt; omega
          have HD := Lib.hid hd
          by_cases hmin : room ≤ d
          · have m1 : (room : Int) ≤ (d : Int) := by omega
            have m2 : min (room : Int) (d : Int) = (room : Int) := by omega
            have hcall := Lib.hid (chunk_any w wr B1 B2 (B2 + 1) gC b (B2 + 2) n c2 a2 room xs C2 HK.out HS.out hr1 (by omega))
            clear hd
            go_wp2_with fail
            refine hcall.out.mono ?_
            rintro e wz ⟨rfl, hz⟩
            have HZ := Lib.hid hz
            clear hz
            go_wp2_with fail
            go_roundg (x - (a2 + room))
            case rel => exact ⟨a2 + room, _, by have := HD.out; omega, by omega, HZ.out, chunk_step HC.out hr1 (Nat.le_refl _) (fun t h1 h2 => hno.out t h1 (by have := HD.out; omega)) (Or.inl rfl)⟩
            case measure => omega
          · have m1 : ¬ (room : Int) ≤ (d : Int) := by omega
            have m2 : min (room : Int) (d : Int) = (d : Int) := by omega
            have hcall := Lib.hid (chunk_any w wr B1 B2 (B2 + 1) gC b (B2 + 2) n c2 a2 d xs C2 HK.out HS.out (by omega) (by omega))
            clear hd
            go_wp2_with fail
            refine hcall.out.mono ?_
            rintro e wz ⟨rfl, hz⟩
            have HZ := Lib.hid hz
            clear hz
            go_wp2_with fail
            go_roundg 0
            case rel => exact ⟨a2 + d, _, by have := HD.out; omega, by omega, HZ.out, chunk_step HC.out (by have := HD.out; omega) (by omega) (fun t h1 h2 => hno.out t h1 (by have := HD.out; omega)) (Or.inr (by rw [show a2 + d = x by have := HD.out; omega]; exact List.mem_of_getElem? HX.out))⟩
            case measure => omega
    · obtain rfl : i = m := by omega
      have hcs : Hid (∀ x ∈ cs, x ≤ at_) := fun x hx => by
        obtain ⟨j, hj, e⟩ := List.getElem_of_mem hx
        exact HLO.out j x (by rw [← HML.out]; exact hj) (by rw [List.getElem?_eq_getElem hj, e])
      have hatn := HS.out.2.1
      clear HLO HHI
      go_wp2_with fail
      go_loopg [] (n - at_) (fun g wy => ∃ (a2 : Nat) (C2 : List (List Nat)), a2 + g = n ∧ at_ ≤ a2 ∧ ChSt w B1 B2 (B2 + 1) gC b (B2 + 2) n c2 xs wy a2 C2 ∧ chunkN room cs xs (a2 + 1) = (C2, a2))
      case atStart => exact ⟨at_, C, by omega, Nat.le_refl _, HS.out, HC.out⟩
      case round =>
        clear HS HC
        obtain ⟨a2, C2, hg, haa, hst, hch⟩ := hrel
        have HS := Lib.hid hst
        have HC := Lib.hid hch
        have p0 := hst.1.pos.cell
        clear hst hch
        obtain ⟨d, hd⟩ : ∃ d, n - a2 = d := ⟨_, rfl⟩
        have e2 : IntKind.i64.wrap ((n : Int) - (a2 : Int)) = (d : Int) := by rw [show (n : Int) - (a2 : Int) = (d : Int) by omega]; exact IntWalk.i64_in _ (by omega)
        have HD := Lib.hid hd
        by_cases hrd : room ≤ d
        · have m1 : decide ((room : Int) ≤ (d : Int)) = true := decide_eq_true (by omega)
          have m2 : (room : Int) ≤ (d : Int) := by omega
          have hcall := Lib.hid (chunk_any w wr B1 B2 (B2 + 1) gC b (B2 + 2) n c2 a2 room xs C2 HK.out HS.out hr1 (by omega))
          clear hd
          go_wp2_with fail
          refine hcall.out.mono ?_
          rintro e wz ⟨rfl, hz⟩
          have HZ := Lib.hid hz
          clear hz
          go_wp2_with fail
          go_roundg (n - (a2 + room))
          case rel => exact ⟨a2 + room, _, by have := HD.out; omega, by omega, HZ.out, chunk_step HC.out hr1 (Nat.le_refl _) (fun t h1 h2 h3 => by have := hcs.out t h3; omega) (Or.inl rfl)⟩
          case measure => have := HD.out; omega
        · have m1 : decide ((room : Int) ≤ (d : Int)) = false := decide_eq_false (by omega)
          have m2 : ¬ (room : Int) ≤ (d : Int) := by omega
          have hfin := chunk_rest HC.out (n := n) (by omega) (by omega) (fun t h1 h2 h3 => by have := hcs.out t h3; omega)
          have HF := Lib.hid hfin
          obtain ⟨hb, hat2, hlen, hbase, Ar, kr, cr, rs, hv, hr, hx⟩ := HS.out
          obtain ⟨Ac, hcu, hAc⟩ := hb.cur
          rw [hd] at hcu
          have HB := Lib.hid hb
          have HR := Lib.hid hr
          have HXS := Lib.hid hx
          have HAc := Lib.hid hAc
          have c1 := hv.cell
          have c2' := hb.fn.cell
          have hKK := HK.out
          have HH := Lib.hid (fun wz (hz : Cur wz gC d (c2 - a2) Ac) => hand_any gC d d (c2 - a2) Ac (Nat.le_refl _) (by have := hKK.oc.1; omega) wz hz)
          have HCU := Lib.hid hcu
          clear hd hfin hb hr hx hAc hcu hv hlen
          go_wp2_with fail
          refine wp_region_noPanic ?_
          refine wp_region_held_drew (S := fun wz => wz.cell? ⟨B1, 0, none⟩ = some (.slice Ar kr cr) ∧ wz.cell? ⟨B2, 0, none⟩ = some (.func (.func 111) #[] #[.pointer (some ⟨gC, 0, none⟩)]) ∧ wz.cell? ⟨B2 + 1, 0, none⟩ = some (.int .i64 (a2 : Int))) (by kernel_rfl) ⟨c1, c2', p0⟩ (fun hHeld => ?_)
          refine wpAnyH_take (i := 0) (v := ?_) rfl (by kernel_rfl) (by kernel_rfl) (by kernel_rfl) (fun _ _ _ h => h) (Or.inl ⟨by rfl, ?_⟩) hHeld ?_
          rotate_left
          · intro wq hSw
            have q0 := hSw.1
            go_simp
            all_goals with_reducible rfl
          try simp only [Act.put, List.getElem_toArray, List.getElem_cons_succ, List.getElem_cons_zero, List.setIfInBounds_toArray, List.set_cons_zero, List.set_cons_succ]
          refine wpAnyH_take (i := 1) (v := ?_) rfl (by kernel_rfl) (by kernel_rfl) (by kernel_rfl) (fun _ _ _ h => h) (Or.inl ⟨by rfl, ?_⟩) hHeld ?_
          rotate_left
          · intro wq hSw
            have q0 := hSw.2.1
            go_simp
            all_goals with_reducible rfl
          try simp only [Act.put, List.getElem_toArray, List.getElem_cons_succ, List.getElem_cons_zero, List.setIfInBounds_toArray, List.set_cons_zero, List.set_cons_succ]
          refine wpAnyH_take (i := 2) (v := ?_) rfl (by kernel_rfl) (by kernel_rfl) (by kernel_rfl) (fun _ _ _ h => h) (Or.inl ⟨by rfl, ?_⟩) hHeld ?_
          rotate_left
          · intro wq hSw
            go_simp
            all_goals with_reducible rfl
          try simp only [Act.put, List.getElem_toArray, List.getElem_cons_succ, List.getElem_cons_zero, List.setIfInBounds_toArray, List.set_cons_zero, List.set_cons_succ]
          refine wpAnyH_take (i := 3) (v := ?_) rfl (by kernel_rfl) (by kernel_rfl) (by kernel_rfl) (fun _ _ _ h => h) (Or.inl ⟨by rfl, ?_⟩) hHeld ?_
          rotate_left
          · intro wq hSw
            go_simp
            all_goals with_reducible rfl
          try simp only [Act.put, List.getElem_toArray, List.getElem_cons_succ, List.getElem_cons_zero, List.setIfInBounds_toArray, List.set_cons_zero, List.set_cons_succ]
          refine wpAnyH_take (i := 4) (v := ?_) rfl (by kernel_rfl) (by kernel_rfl) (by kernel_rfl) (fun _ _ _ h => h) (Or.inl ⟨by rfl, ?_⟩) hHeld ?_
          rotate_left
          · intro wq hSw
            have q0 := hSw.2.2
            go_simp
            all_goals with_reducible rfl
          try simp only [Act.put, List.getElem_toArray, List.getElem_cons_succ, List.getElem_cons_zero, List.setIfInBounds_toArray, List.set_cons_zero, List.set_cons_succ]
          refine wpAnyH_take (i := 5) (v := ?_) rfl (by kernel_rfl) (by kernel_rfl) (by kernel_rfl) (fun _ _ _ h => h) (Or.inl ⟨by rfl, ?_⟩) hHeld ?_
          rotate_left
          · intro wq hSw
            go_simp
            all_goals with_reducible rfl
          try simp only [Act.put, List.getElem_toArray, List.getElem_cons_succ, List.getElem_cons_zero, List.setIfInBounds_toArray, List.set_cons_zero, List.set_cons_succ]
          refine wpAnyH_ready (rs := [6]) (by kernel_rfl) (by simp) ?_
          refine AllReadyH.cons rfl (fun K hK => ?_) AllReadyH.nil
          go_simp
          refine (HH.out wr.drew HCU.out).mono ?_
          rintro e w1 ⟨rfl, rfl⟩
          have s1 : (wr.drew.setCell ⟨gC, 0, none⟩ (.slice (dropA Ac (c2 - a2) d) (d - d) (c2 - a2 - d))).cell? ⟨B1, 0, none⟩ = some (.slice Ar kr cr) := by rw [World.cell?_setCell_far _ _ _ _ (by show gC ≠ B1; have := hKK.o2; omega)]; exact c1
          have s2 : (wr.drew.setCell ⟨gC, 0, none⟩ (.slice (dropA Ac (c2 - a2) d) (d - d) (c2 - a2 - d))).cell? ⟨B2, 0, none⟩ = some (.func (.func 111) #[] #[.pointer (some ⟨gC, 0, none⟩)]) := by rw [World.cell?_setCell_far _ _ _ _ (by show gC ≠ B2; have := hKK.o3; omega)]; exact c2'
          have s3 : (wr.drew.setCell ⟨gC, 0, none⟩ (.slice (dropA Ac (c2 - a2) d) (d - d) (c2 - a2 - d))).cell? ⟨B2 + 1, 0, none⟩ = some (.int .i64 (a2 : Int)) := by rw [World.cell?_setCell_far _ _ _ _ (by show gC ≠ B2 + 1; have := hKK.o3; omega)]; exact p0
          refine hK.out _ _ ⟨s1, s2, s3⟩ (fun hHeld => ?_)
          clear hK K
          try simp only [Act.put, List.getElem_toArray, List.getElem_cons_succ, List.getElem_cons_zero, List.setIfInBounds_toArray, List.set_cons_zero, List.set_cons_succ]
          refine wpAnyH_take (i := 7) (v := ?_) rfl (by kernel_rfl) (by kernel_rfl) (by kernel_rfl) (fun _ _ _ h => h) (Or.inl ⟨by rfl, ?_⟩) hHeld ?_
          rotate_left
          · intro wq hSw
            go_simp
            all_goals with_reducible rfl
          try simp only [Act.put, List.getElem_toArray, List.getElem_cons_succ, List.getElem_cons_zero, List.setIfInBounds_toArray, List.set_cons_zero, List.set_cons_succ]
          refine wpAnyH_take (i := 8) (v := ?_) rfl (by kernel_rfl) (by kernel_rfl) (by kernel_rfl) (fun _ _ _ h => h) (Or.inl ⟨by rfl, ?_⟩) hHeld ?_
          rotate_left
          · intro wq hSw
            go_simp
            all_goals with_reducible rfl
          try simp only [Act.put, List.getElem_toArray, List.getElem_cons_succ, List.getElem_cons_zero, List.setIfInBounds_toArray, List.set_cons_zero, List.set_cons_succ]
          refine wpAnyH_take (i := 9) (v := ?_) rfl (by kernel_rfl) (by kernel_rfl) (by kernel_rfl) (fun _ _ _ h => h) (Or.inl ⟨by rfl, ?_⟩) hHeld ?_
          rotate_left
          · intro wq hSw
            go_simp
            all_goals with_reducible rfl
          try simp only [Act.put, List.getElem_toArray, List.getElem_cons_succ, List.getElem_cons_zero, List.setIfInBounds_toArray, List.set_cons_zero, List.set_cons_succ]
          refine wpAnyH_done (by kernel_rfl) ?_ _
          refine NoPanic.normal ?_
          clear hHeld
          clear s1 s2 s3 c1 c2' p0
          have t6 : Turned (fun x => x = gC) wr (wr.drew.setCell ⟨gC, 0, none⟩ (.slice (dropA Ac (c2 - a2) d) (d - d) (c2 - a2 - d))) := (Turned.of_keep (Keep.drew (Keep.refl wr))).trans (Turned.set (F := fun x => x = gC) wr.drew _ _ rfl) fun x e => Or.inl e
          have HT6 := Lib.hid t6
          generalize wr.drew.setCell ⟨gC, 0, none⟩ (.slice (dropA Ac (c2 - a2) d) (d - d) (c2 - a2 - d)) = w9 at *
          clear t6
          go_wp2_with fail
          go_ret3
          have k9 : Keep w w9 := HT6.out.keep HB.out.kp fun x e => by have e : x = gC := e; have := hKK.o1; have := hKK.o2; omega
          have hr9 := HR.out.turned HT6.out (fun x hx e => by have e : x = gC := e; have := HR.out.own.rowLe x hx; have := hKK.o3; have := hKK.o4; have := hKK.o5; omega) (fun hp e => by have e : b = gC := e; have := hKK.ob hp; omega)
          have hb9 : 0 < n → b < w9.heap.size := fun hp => by have h1 := hKK.ob hp; have h2 := hKK.o3; have h3 := hKK.o4; have h4 := hKK.o5; have h5 := HT6.out.size; omega
          refine ⟨Ar, kr, cr, Ac, d, d, rs, rfl, ⟨OwnRows.lower hr9.own (by have h1 := hKK.o1; have h2 := hKK.o2; have h3 := hKK.o3; have h4 := hKK.o4; have h5 := hKK.o5; omega), fun r hr => (hr9.lie r hr).mono fun x hx => ?_, k9⟩, by rw [HF.out]; exact HXS.out, ?_, k9⟩
          · have h1 := hKK.ob hx.2
            have h2 := hb9 hx.2
            have h3 := hx.1
            have h4 := hKK.o1
            refine ⟨by omega, by omega, fun e => ?_⟩
            have := HR.out.own.rowLe x e
            have h5 := hKK.o3; have h6 := hKK.o4; have h7 := hKK.o5
            omega
          · rw [HF.out]
            show LiesIn w9 _ ⟨Ac, d, d, xs.drop a2⟩
            have hDD := HD.out
            by_cases h0 : 1 ≤ d
            · have hp := ChR.piece HB.out h0 (by omega)
              have e : pieceN xs a2 (a2 + d) = xs.drop a2 := by
                rw [pieceN, Nat.add_sub_cancel_left]
                exact List.take_of_length_le (by rw [List.length_drop, HXL.out]; omega)
              rw [e] at hp
              rw [HAc.out (by omega)]
              exact (hp.turned HT6.out fun x hx e => by have e : x = gC := e; have h1 := hKK.ob hx.2; have h2 := hx.1; omega).mono fun x hx => by
                have h1 := hKK.ob hx.2
                have h2 := hb9 hx.2
                have h3 := hx.1
                have h4 := hKK.o1
                exact ⟨by omega, by omega⟩
            · obtain rfl : d = 0 := by omega
              rw [List.drop_of_length_le (by rw [HXL.out]; omega)]
              exact ⟨rfl, fun _ h => by simp at h, Nat.le_refl _, fun h => absurd h (by simp)⟩
end Go.Proofs.Ytcafofffgmaepaa
