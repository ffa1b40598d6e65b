/- The closure that compares and writes: layer 6's first statement. -/
import Derived.Test.YtcmjglmagkjdoaaMwakes
import Derived.Test.YtcmjglmagkjdoaaMsame
import Derived.Test.YtcmjglmagkjdoaaMine
import Derived.Test.YtcmjglmagkjdoaaMcut
namespace Go.Proofs.Ytcmjglmagkjdoaa
open Go.RowKit
set_option linter.unusedVariables false
set_option linter.unusedSimpArgs false
/-- The answer so far: true, in a block of its own. -/
def Right (W w : World) (g : Nat) : Prop := W.heap.size ≤ g ∧ w.heap[g]? = some (.cells #[.bool true] 4 (0, 0)) ∧ Keep W w
theorem Right.cell {W w : World} {g : Nat} (h : Right W w g) : w.cell? ⟨g, 0, none⟩ = some (.bool true) ∧ w.frozen? ⟨g, 0, none⟩ = false ∧ g < w.heap.size := by
  refine ⟨by simp [World.cell?, h.2.1], by simp [World.frozen?, h.2.1], (Array.getElem?_eq_some_iff.1 h.2.1).1⟩
theorem Right.later {W w w' : World} {g : Nat} (h : Right W w g) (k : Keep w w') : Right W w' g := ⟨h.1, (k.block g h.cell.2.2).trans h.2.1, h.2.2.trans k⟩
theorem Right.again {W w : World} {g : Nat} (h : Right W w g) : Right W (w.setCell ⟨g, 0, none⟩ (.bool true)) g := ⟨h.1, by
  have := h.2.1
  simp [World.setCell, Array.getElem?_modify, this], h.2.2.setCell h.1 _⟩
theorem Right.far {W w : World} {g g2 i : Nat} (h : Right W w g) (hg : g < g2) (v : Value) : Right W (w.setCell ⟨g2, i, none⟩ v) g := ⟨h.1, (Below.heap_setCell _ _ _ _ (by show g ≠ g2; omega)).trans h.2.1, h.2.2.setCell (Nat.le_trans h.1 (Nat.le_of_lt hg)) _⟩
set_option maxRecDepth 100000 in
set_option maxHeartbeats 4000000 in
theorem check_any (W w0 w : World) (g n c n' c' : Nat) (er : Int) (A A' : Option Addr) (rs : List RowV) (hR : Right W w g) (hg0 : g < w0.heap.size) (hk0 : w0.heap.size ≤ w.heap.size) (ho : OwnRows w w0.heap.size 26 A n c rs) (hr : ∀ r ∈ rs, Own w w0.heap.size 5 r.A r.n r.c r.xs) (hm : Mat w ⟨A', n', c', rowsXs rs⟩) (hn : n ≤ 1000000) (hrn : ∀ r ∈ rs, r.n ≤ 140737488355328) :
    Calls Try.prog 11 #[.slice A n c, .int .i64 er, .slice A' n' c', .int .i64 er, .pointer (some ⟨g, 0, none⟩)] w fun e w' => e = .returned (.tuple #[]) ∧ Right W w' g := by
  obtain ⟨cR, fR, gl⟩ := hR.cell
  obtain ⟨rt, t1, t2, t3⟩ := hm
  have HO := Lib.hid ho
  have HR := Lib.hid hR
  have I1 : Hid (RowsIn w (· < w.heap.size) A n rs) := RowsIn.of_own ho (fun r h => (hr r h).lies.mono fun b hb => ((hr r h).1.lt b hb).2) (fun b hb => (ho.lt b hb).2)
  have I2 : Hid (RowsIn w (· < w.heap.size) A' n' rt ∧ rowsXs rt = rowsXs rs) := ⟨t1, t2⟩
  have M0 : Hid (∀ r ∈ rs, Mine w0 w r.A r.n r.c ∧ r.n ≤ 140737488355328) := fun r h => ⟨⟨_, hr r h⟩, hrn r h⟩
  have q0 : ((er : Int) == er) = true := beq_iff_eq.2 rfl
  clear ho hR hr t1 t2 t3 hrn
  go_enter Try.func11, Try.ntmps11
  go_wp2_with fail
  refine (rsame_any n n' c c' A A' _ _ rs rt _ I1.out I2.out.1 (fun _ e => e) (fun _ e => e) (by omega)).mono ?_
  rw [decide_eq_true I2.out.2.symm]
  rintro e w1 ⟨rfl, kd, rfl⟩
  have kd' : Keep w (w.drewN kd) := (Keep.refl w).drewN kd
  have R1 := Lib.hid (HR.out.later kd').again
  have R0 := Lib.hid (HR.out.later kd')
  have T1 : Turned (fun b => b = g) w ((w.drewN kd).setCell ⟨g, 0, none⟩ (.bool true)) := (Turned.of_keep kd').trans (Turned.set (F := fun b => b = g) _ _ _ rfl) fun i e => Or.inl e
  have O1 := Lib.hid (HO.out.turned T1 fun b hb e => by have := HO.out.rowLe b hb; omega)
  have M1 : Hid (∀ r ∈ rs, Mine w0 ((w.drewN kd).setCell ⟨g, 0, none⟩ (.bool true)) r.A r.n r.c ∧ r.n ≤ 140737488355328) := fun r h => ⟨by
    obtain ⟨xs, o⟩ := (M0.out r h).1
    exact ⟨xs, o.turned T1 fun b hb e => by have := (o.1.lt b hb).1; omega⟩, (M0.out r h).2⟩
  have HSZ : Hid (w0.heap.size ≤ ((w.drewN kd).setCell ⟨g, 0, none⟩ (.bool true)).heap.size) := by show _ ≤ _; simpa [World.setCell] using hk0
  obtain ⟨cR1, fR1, _⟩ := R0.out.cell
  clear T1 kd' M0 I1 I2
  go_wp2_with fail
  go_loopw [9] (fun iv wz => ∃ a : Nat, a ≤ n ∧ iv = .int .i64 a ∧ Right W wz g ∧ OwnRows wz w0.heap.size 26 A n c rs ∧ ∀ r ∈ rs, Mine w0 wz r.A r.n r.c ∧ r.n ≤ 140737488355328) (fun iv _ => n - (intOf iv).toNat)
  case atStart => exact ⟨0, by omega, rfl, R1.out, O1.out, M1.out⟩
  case round =>
    clear R0 R1 O1 M1 cR1 fR1 cR fR HR HO
    obtain ⟨a, ha, rfl, hR, ho, hm⟩ := hrel
    by_cases hlt : a < n
    · have hal : a < rs.length := by rw [ho.length]; exact hlt
      obtain ⟨r, hra⟩ : ∃ r, rs[a] = r := ⟨_, rfl⟩
      have hrm : r ∈ rs := hra ▸ List.getElem_mem hal
      obtain ⟨ga, rfl, hga, hgl⟩ := ho.block (by omega)
      have hcell := World.ownsRow.cells ho (g := ga) rfl a r.val (by rw [List.getElem?_map, List.getElem?_eq_getElem hal, hra]; rfl)
      have haa : (⟨ga, 0, none⟩ : Addr).add a = ⟨ga, a, none⟩ := by unfold Addr.add; split <;> simp_all
      rw [haa, RowV.val] at hcell
      have R2 := Lib.hid hR
      have O2 := Lib.hid ho
      have M2 := Lib.hid hm
      have HRM := Lib.hid (And.intro hrm (And.intro hal hra))
      have hrn := (hm r hrm).2
      have e3 : (0 : Int) ≤ (a : Int) := Int.natCast_nonneg _
      have e4 : (a : Int) < (n : Int) := by omega
      clear hR ho hm hra hrm haa
      go_wp2_with fail
      go_loopw [10] (fun kv wz => ∃ s : Nat, s ≤ r.n ∧ kv = .int .i64 s ∧ Right W wz g ∧ OwnRows wz w0.heap.size 26 (some ⟨ga, 0, none⟩) n c rs ∧ ∀ r ∈ rs, Mine w0 wz r.A r.n r.c ∧ r.n ≤ 140737488355328) (fun kv _ => r.n - (intOf kv).toNat)
      case atStart => exact ⟨0, by omega, rfl, R2.out, O2.out, M2.out⟩
      case round =>
        clear R2 O2 M2 hcell
        obtain ⟨s, hs, rfl, hR, ho, hm⟩ := hrel
        have h3 := (hm r HRM.out.1).1
        have hcell := World.ownsRow.cells ho (g := ga) rfl a r.val (by rw [List.getElem?_map, List.getElem?_eq_getElem HRM.out.2.1, HRM.out.2.2]; rfl)
        have haa : (⟨ga, 0, none⟩ : Addr).add a = ⟨ga, a, none⟩ := by unfold Addr.add; split <;> simp_all
        rw [haa, RowV.val] at hcell
        by_cases hlt3 : s < r.n
        · obtain ⟨g2, q, e2, hg, hq, hc, hf⟩ := h3.at_ hlt3
          rw [e2] at hcell
          obtain ⟨u, hu⟩ : ∃ u, q ^^^ 255 = u := ⟨_, rfl⟩
          obtain ⟨hxor, hu2⟩ := flip_int q u hq hu
          have hne : g2 ≠ ga := fun e => by
            obtain ⟨ys, h4⟩ := h3
            have z := blocks_apart h4 ho (by decide)
            rw [e2] at z
            rcases z with z | z
            · cases z
            · exact z (by rw [e]; rfl)
          have H4 := Lib.hid (hR.far (g2 := g2) (i := s) (by omega) (.int .u8 (u : Int)))
          have H5 := Lib.hid (ho.turned (Turned.set (F := fun b => b = g2) _ ⟨g2, s, none⟩ (.int .u8 (u : Int)) rfl) (fun b hb e => by
            have hb : ga = b := by simpa [Value.ownBlock] using hb
            exact hne (e.symm.trans hb.symm)))
          have H6 : Hid (∀ r ∈ rs, Mine w0 (World.setCell _ ⟨g2, s, none⟩ (.int .u8 (u : Int))) r.A r.n r.c ∧ r.n ≤ 140737488355328) := fun r hr => ⟨(hm r hr).1.set g2 s u hu2, (hm r hr).2⟩
          have e5 : (0 : Int) ≤ (s : Int) := Int.natCast_nonneg _
          have e6 : (s : Int) < (r.n : Int) := by omega
          clear h3 hR ho hm hu hne haa
          go_wp2_with fail
          go_roundw
          case rel => exact ⟨s + 1, by omega, by go_num, H4.out, H5.out, H6.out⟩
          case measure => simp [intOf]; omega
        · have e6 : ¬ (s : Int) < (r.n : Int) := by omega
          have H4 := Lib.hid hR
          have H5 := Lib.hid ho
          have H6 := Lib.hid hm
          clear h3 hR ho hm hs haa
          go_wp2_with fail
          go_roundw
          case rel => exact ⟨a + 1, by omega, by go_num, H4.out, H5.out, H6.out⟩
          case measure => simp [intOf]; omega
    · have e4 : ¬ (a : Int) < (n : Int) := by omega
      have H4 := Lib.hid hR
      clear hR ho hm ha
      go_wp2_with fail
      go_end0
      exact ⟨rfl, H4.out⟩
end Go.Proofs.Ytcmjglmagkjdoaa
