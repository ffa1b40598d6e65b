/- The closures of layer 8's first statement: what is told is compared and written to. -/
import Derived.Test.YtofhdaeeiienfaaSk
import Derived.Test.YtofhdaeeiienfaaMsame
import Derived.Test.YtofhdaeeiienfaaMine
import Derived.Test.YtofhdaeeiienfaaScut
import Derived.Laws.EntriesVeiled
namespace Go.Proofs.Ytofhdaeeiienfaa
open Go.RowKit
set_option linter.unusedVariables false
set_option linter.unusedSimpArgs false
set_option maxRecDepth 100000 in
set_option maxHeartbeats 4000000 in
/-- Each number of each row is turned. -/
theorem flip_any (w0 w : World) (n c : Nat) (A : Option Addr) (rs : List RowV) (ho : OwnRows w w0.heap.size 23 A n c rs) (hm : ∀ r ∈ rs, Mine w0 w r.A r.n r.c ∧ r.n ≤ 140737488355328) (hn : n ≤ 140737488355328) :
    Calls Try.prog 11 #[.slice A n c] w fun e w' => e = .returned (.tuple #[]) ∧ Turned (fun b => w0.heap.size ≤ b) w w' := by
  have O1 := Lib.hid ho
  have M1 := Lib.hid hm
  clear ho hm
  go_enter Try.func11, Try.ntmps11
  go_wp2_with fail
  go_loopw [2] (fun iv wz => ∃ a : Nat, a ≤ n ∧ iv = .int .i64 a ∧ OwnRows wz w0.heap.size 23 A n c rs ∧ (∀ r ∈ rs, Mine w0 wz r.A r.n r.c ∧ r.n ≤ 140737488355328) ∧ Turned (fun b => w0.heap.size ≤ b) w wz) (fun iv _ => n - (intOf iv).toNat)
  case atStart => exact ⟨0, by omega, rfl, O1.out, M1.out, Turned.refl _ _⟩
  case round =>
    clear O1 M1
    obtain ⟨a, ha, rfl, ho, hm, hT⟩ := hrel
    by_cases hlt : a < n
    · have hal : a < rs.length := by rw [ho.length]; exact hlt
      obtain ⟨r, hra⟩ : ∃ r, rs[a] = r := ⟨_, rfl⟩
      have hrm : r ∈ rs := hra ▸ List.getElem_mem hal
      obtain ⟨ga, rfl, hga, hgl⟩ := ho.block (by omega)
      have O2 := Lib.hid ho
      have M2 := Lib.hid hm
      have T2 := Lib.hid hT
      have HRM := Lib.hid (And.intro hrm (And.intro hal hra))
      have hrn := (hm r hrm).2
      have e3 : (0 : Int) ≤ (a : Int) := Int.natCast_nonneg _
      have e4 : (a : Int) < (n : Int) := by omega
      clear ho hm hra hrm hT
      go_wp2_with fail
      go_loopw [3] (fun kv wz => ∃ s : Nat, s ≤ r.n ∧ kv = .int .i64 s ∧ OwnRows wz w0.heap.size 23 (some ⟨ga, 0, none⟩) n c rs ∧ (∀ r ∈ rs, Mine w0 wz r.A r.n r.c ∧ r.n ≤ 140737488355328) ∧ Turned (fun b => w0.heap.size ≤ b) w wz) (fun kv _ => r.n - (intOf kv).toNat)
      case atStart => exact ⟨0, by omega, rfl, O2.out, M2.out, T2.out⟩
      case round =>
        clear O2 M2 T2
        obtain ⟨s, hs, rfl, ho, hm, hT⟩ := hrel
        have h3 := (hm r HRM.out.1).1
        have hcell := World.ownsRow.cells ho (g := ga) rfl a r.val (by rw [List.getElem?_map, List.getElem?_eq_getElem HRM.out.2.1, HRM.out.2.2]; rfl)
        have haa : (⟨ga, 0, none⟩ : Addr).add a = ⟨ga, a, none⟩ := by unfold Addr.add; split <;> simp_all
        rw [haa, RowV.val] at hcell
        by_cases hlt3 : s < r.n
        · obtain ⟨g2, q, e2, hg, hq, hc, hf⟩ := h3.at_ hlt3
          rw [e2] at hcell
          obtain ⟨u, hu⟩ : ∃ u, q ^^^ 255 = u := ⟨_, rfl⟩
          obtain ⟨hxor, hu2⟩ := flip_int q u hq hu
          have hne : g2 ≠ ga := fun e => by
            obtain ⟨ys, h4⟩ := h3
            have z := blocks_apart h4 ho (by decide)
            rw [e2] at z
            rcases z with z | z
            · cases z
            · exact z (by rw [e]; rfl)
          have H4 := Lib.hid (hT.trans (Turned.set (F := fun b => w0.heap.size ≤ b) _ ⟨g2, s, none⟩ (.int .u8 (u : Int)) hg) fun i e => Or.inl e)
          have H5 := Lib.hid (ho.turned (Turned.set (F := fun b => b = g2) _ ⟨g2, s, none⟩ (.int .u8 (u : Int)) rfl) (fun b hb e => by
            have hb : ga = b := by simpa [Value.ownBlock] using hb
            exact hne (e.symm.trans hb.symm)))
          have H6 : Hid (∀ r ∈ rs, Mine w0 (World.setCell _ ⟨g2, s, none⟩ (.int .u8 (u : Int))) r.A r.n r.c ∧ r.n ≤ 140737488355328) := fun r hr => ⟨(hm r hr).1.set g2 s u hu2, (hm r hr).2⟩
          have e5 : (0 : Int) ≤ (s : Int) := Int.natCast_nonneg _
          have e6 : (s : Int) < (r.n : Int) := by omega
          clear h3 hT ho hm hu hne haa
          go_wp2_with fail
          go_roundw
          case rel => exact ⟨s + 1, by omega, by go_num, H5.out, H6.out, H4.out⟩
          case measure => simp [intOf]; omega
        · have e6 : ¬ (s : Int) < (r.n : Int) := by omega
          have H4 := Lib.hid hT
          have H5 := Lib.hid ho
          have H6 := Lib.hid hm
          clear h3 hT ho hm hs haa
          go_wp2_with fail
          go_roundw
          case rel => exact ⟨a + 1, by omega, by go_num, H5.out, H6.out, H4.out⟩
          case measure => simp [intOf]; omega
    · have e4 : ¬ (a : Int) < (n : Int) := by omega
      have H4 := Lib.hid hT
      clear hT ho hm ha
      go_wp2_with fail
      go_end0
      exact ⟨rfl, H4.out⟩
/-- The answer so far: true, in a block of its own; the closure that turns what is told, in another one. -/
def Right (W w : World) (g gf : Nat) : Prop := W.heap.size ≤ g ∧ g < gf ∧ w.heap[g]? = some (.cells #[.bool true] 4 (0, 0)) ∧ Held w gf (.func (.func 11) #[] #[]) 25 ∧ Keep W w
namespace Right
variable {W w w' : World} {g gf : Nat}
theorem keep (h : Right W w g gf) : Keep W w := h.2.2.2.2
theorem cell (h : Right W w g gf) : w.cell? ⟨g, 0, none⟩ = some (.bool true) ∧ w.frozen? ⟨g, 0, none⟩ = false ∧ gf < w.heap.size := by
  refine ⟨by simp [World.cell?, h.2.2.1], by simp [World.frozen?, h.2.2.1], h.2.2.2.1.lt⟩
theorem turned {F : Nat → Prop} (h : Right W w g gf) (k : Turned F w w') (h1 : ¬ F g) (h2 : ¬ F gf) (h3 : ∀ b, F b → W.heap.size ≤ b) : Right W w' g gf :=
  ⟨h.1, h.2.1, (k.block g (Nat.lt_trans h.2.1 h.cell.2.2) h1).trans h.2.2.1, (k.block gf h.cell.2.2 h2).trans h.2.2.2.1, k.keep h.keep h3⟩
theorem later (h : Right W w g gf) (k : Keep w w') : Right W w' g gf := h.turned (Turned.of_keep (F := fun _ => False) k) (fun e => e) (fun e => e) (fun _ e => e.elim)
theorem again (h : Right W w g gf) : Right W (w.setCell ⟨g, 0, none⟩ (.bool true)) g gf := ⟨h.1, h.2.1, by
  have := h.2.2.1
  simp [World.setCell, Array.getElem?_modify, this], by
  have h1 := h.2.1
  exact (Below.heap_setCell _ _ _ _ (by show gf ≠ g; omega)).trans h.2.2.2.1, h.keep.setCell h.1 _⟩
end Right
set_option maxRecDepth 100000 in
theorem asks_any (W w : World) (g gf : Nat) (p : Bool) (er : Int) (hR : Right W w g gf) :
    Calls Try.prog 14 #[.bool p, .int .i64 er, .bool p, .int .i64 er, .pointer (some ⟨g, 0, none⟩)] w fun e w' => e = .returned (.tuple #[]) ∧ Right W w' g gf ∧ Turned (fun b => b = g) w w' := by
  obtain ⟨cR, fR, gl⟩ := hR.cell
  have R1 := Lib.hid hR.again
  have T1 := Lib.hid (Turned.set (F := fun b => b = g) w ⟨g, 0, none⟩ (.bool true) rfl)
  have q0 : ((er : Int) == er) = true := beq_iff_eq.2 rfl
  have q1 : (p == p) = true := beq_iff_eq.2 rfl
  clear hR
  go_enter Try.func14, Try.ntmps14
  go_wp2_with fail
  go_end0
  exact ⟨rfl, R1.out, T1.out⟩
set_option maxRecDepth 100000 in
set_option maxHeartbeats 2000000 in
theorem lists_any (W w0 w1 w : World) (g gf n c n' c' : Nat) (er : Int) (A A' : Option Addr) (M : List (List Nat)) (rs : List RowV) (hR : Right W w0 g gf) (ho : OwnedRows w0 w1 A n c M rs) (k : Keep w1 w) (hm : Mat w ⟨A', n', c', M⟩) (h1 : M.length ≤ 1000) (h2 : ∀ x ∈ M, x.length ≤ 1000) :
    Calls Try.prog 12 #[.slice A n c, .int .i64 er, .slice A' n' c', .int .i64 er, .pointer (some ⟨g, 0, none⟩), .pointer (some ⟨gf, 0, none⟩)] w fun e w' => e = .returned (.tuple #[]) ∧ Right W w' g gf := by
  have hk : Keep w0 w := ho.2.2.2.trans k
  have hg0 : gf < w0.heap.size := hR.cell.2.2
  have hgf := hR.2.1
  have HW : Hid (W.heap.size ≤ w0.heap.size) := hR.keep.size
  have hRw := hR.later hk
  obtain ⟨cR, fR, gl⟩ := hRw.cell
  have hn : n ≤ 1000 := by rw [← ho.1.length, ← rowsXs_len, ho.2.2.1]; exact h1
  have O1 := Lib.hid (ho.1.keep k)
  have M1 : Hid (∀ r ∈ rs, Mine w0 w r.A r.n r.c ∧ r.n ≤ 140737488355328) := fun r hr => ⟨⟨_, (ho.2.1 r hr).keep k⟩, by
    rw [← (ho.2.1 r hr).length]
    have := h2 r.xs (by rw [← ho.2.2.1]; exact List.mem_map.2 ⟨r, hr, rfl⟩)
    omega⟩
  obtain ⟨rt, t1, t2, t3⟩ := hm
  have I1 : Hid (RowsIn w (· < w.heap.size) A n rs ∧ rowsXs rs = M) := ⟨ho.rowsIn.turned (Turned.of_keep (F := fun _ => False) k) (fun _ _ e => e) |>.mono fun b hb => Nat.lt_of_lt_of_le hb.2 k.size, ho.2.2.1⟩
  have I2 : Hid (RowsIn w (· < w.heap.size) A' n' rt ∧ rowsXs rt = M) := ⟨t1, t2⟩
  have q0 : ((er : Int) == er) = true := beq_iff_eq.2 rfl
  have R0 := Lib.hid hRw
  clear hR ho k t1 t2 t3 hk hRw h1 h2
  go_enter Try.func12, Try.ntmps12
  go_wp2_with fail
  refine (rsame_any n n' c c' A A' _ _ rs rt _ I1.out.1 I2.out.1 (fun _ e => e) (fun _ e => e) (by omega)).mono ?_
  rw [decide_eq_true (I1.out.2.trans I2.out.2.symm)]
  rintro e w2 ⟨rfl, kd, rfl⟩
  have kd' : Keep w (w.drewN kd) := (Keep.refl w).drewN kd
  have R1 := Lib.hid (R0.out.later kd').again
  obtain ⟨cR1, fR1, _⟩ := (R0.out.later kd').cell
  have T1 : Turned (fun b => b = g) w ((w.drewN kd).setCell ⟨g, 0, none⟩ (.bool true)) := (Turned.of_keep kd').trans (Turned.set (F := fun b => b = g) _ _ _ rfl) fun i e => Or.inl e
  have O2 := Lib.hid (O1.out.turned T1 fun b hb e => by have := O1.out.rowLe b hb; omega)
  have M2 : Hid (∀ r ∈ rs, Mine w0 ((w.drewN kd).setCell ⟨g, 0, none⟩ (.bool true)) r.A r.n r.c ∧ r.n ≤ 140737488355328) := fun r h => ⟨by
    obtain ⟨xs, o⟩ := (M1.out r h).1
    exact ⟨xs, o.turned T1 fun b hb e => by have := (o.1.lt b hb).1; omega⟩, (M1.out r h).2⟩
  clear T1 kd' I1 I2 R0 O1 M1 cR fR
  go_upto_region 1 with fail
  have cf := R1.out.2.2.2.1.cell
  generalize (w.drewN kd).setCell ⟨g, 0, none⟩ (.bool true) = w3 at *
  go_wp2_with fail
  refine (flip_any w0 w3 n c A rs O2.out M2.out (by omega)).mono ?_
  rintro e w4 ⟨rfl, hT⟩
  have R2 := Lib.hid (R1.out.turned hT (by omega) (by omega) fun b hb => Nat.le_trans HW.out hb)
  clear hT R1 O2 M2
  go_wp2_with fail
  go_end0
  exact ⟨rfl, R2.out⟩
end Go.Proofs.Ytofhdaeeiienfaa
