/- PadLays: room, symbols, chunks of symbols are the document's. -/
import Derived.Test.YtbmfjikkmkmgeaaPf1
namespace Go.Proofs.Ytbmfjikkmkmgeaa
open Go.RowKit
set_option linter.unusedVariables false
set_option linter.unusedSimpArgs false
set_option maxRecDepth 100000 in
set_option maxHeartbeats 8000000 in
theorem padlays_any (g0 s0 : Int) (n0 c0 n1 c1 : Nat) (A0 A1 : Option Addr) (xs : List Nat) (rs : List RowV) (W : World) (b0 : Bytes W W.heap.size A0 n0 xs) (b1 : RowsAt W W.heap.size A1 n1 rs) (l0 : n0 ≤ 140737488351232) (q0 : n0 ≤ c0) (l1 : n1 ≤ 140737488351232) (q1 : n1 ≤ c1) :
    Calls Try.prog 3 #[.int .i64 g0, .int .i64 s0, .agg #[.slice A0 n0 c0, .slice A1 n1 c1]] W fun e w' => e = .returned (.bool true) ∧ Keep W w' := by
  obtain ⟨k, hk⟩ : ∃ k, min n1 50 = k := ⟨_, rfl⟩
  have hmin := run_least n1 50 k 50 rfl hk
  have hhead := head_rows k n1 c1 A1 (by omega)
  obtain ⟨g, hg⟩ : ∃ g, sizeV 255 g0 = g := ⟨_, rfl⟩
  obtain ⟨s, hs⟩ : ∃ s, sizeV 65535 s0 = s := ⟨_, rfl⟩
  have HS0 : ∀ w, Calls Try.prog 9 #[.int .i64 g0, .int .i64 s0] w fun e w' => e = .returned (.tuple #[.int .i64 g, .int .i64 s]) ∧ w = w' := fun w => by rw [← hg, ← hs]; exact sizes_any g0 s0 w
  have HSZ := Lib.hid HS0
  clear HS0
  obtain ⟨gX, hgX⟩ : ∃ gX, W.heap.size = gX := ⟨_, rfl⟩
  obtain ⟨w0, hw0⟩ : ∃ w0, W.alloc (.cells #[.slice A0 n0 c0, .slice A1 n1 c1] 25) = w0 := ⟨_, rfl⟩
  have p0 : Pair2 w0 gX (.slice A0 n0 c0) (.slice A1 n1 c1) 25 := by rw [← hw0, ← hgX]; exact Pair2.new W _ _ _
  have k0 : Keep W w0 := by rw [← hw0]; exact (Keep.refl W).ob _
  obtain ⟨w1, hw1⟩ : ∃ w1, w0.setCell ⟨gX, 1, none⟩ (.slice A1 k c1) = w1 := ⟨_, rfl⟩
  have p1 : Pair2 w1 gX (.slice A0 n0 c0) (.slice A1 k c1) 25 := by rw [← hw1]; exact p0.put1
  have k1 : Keep W w1 := by rw [← hw1]; exact k0.setCell (by rw [hgX]; exact Nat.le_refl _) _
  have P1 := Lib.hid p1
  have K1 := Lib.hid k1
  have B0 := Lib.hid b0
  have B1 := Lib.hid (b1.head (k := k) (by omega))
  have x0 := p0.cell0
  have x1 := p0.cell1
  have x2 := p0.free 1
  have y0 := p1.cell0
  have y1 := p1.cell1
  clear p0 p1 k0 k1 b0 b1 hg hs hk
  go_enter Try.func3, Try.ntmps3
  go_wp2_with fail
  refine (HSZ.out _).mono ?_
  rintro e w2 ⟨rfl, rfl⟩
  go_wp2_with fail
  refine (proom_any g s w1).mono ?_
  rintro e w2 ⟨rfl, rfl⟩
  go_wp2_with fail
  refine (rroom_any g s w1).mono ?_
  rintro e w2 ⟨rfl, rfl⟩
  clear hmin hhead x0 x1 x2
  generalize roomV g s = ra
  generalize roomE g s = re
  have y2 := (P1.out.keep ((Keep.refl w1).ob (.cells #[] 5))).cell0
  go_wp2_with (at_builtin; refine wpList_append_bytes rfl _ _ 22 rfl Try.underlying22 info5 rfl (Own.lit w1 5 0 [] _ rfl rfl (by omega) (by decide)) rfl ((B0.out.up K1.out).keep (Nat.le_refl _) ((Keep.refl w1).ob _)) ?c1 (by simp) ?_)
  case c1 => omega
  intro A3 c3 w3 o3 gr3 _
  have k13 : Keep w1 w3 := Keep.grown ((Keep.refl w1).ob _) gr3 fun b hb => by
    have hb : some w1.heap.size = some b := hb
    injection hb with hb; omega
  have O3 := Lib.hid o3
  have K3 : Hid (Keep W w3) := K1.out.trans k13
  have P3 := Lib.hid (P1.out.keep k13)
  have z0 := P3.out.cell0
  clear o3 gr3 k13 P1 y0 y1 y2
  obtain ⟨M, hM⟩ : ∃ M, layR g s xs = M := ⟨_, rfl⟩
  obtain ⟨er, her⟩ : ∃ er, layE g s xs = er := ⟨_, rfl⟩
  have HL := Lib.hid (play_any g s A3 n0 c3 xs w3 O3.out.bytes)
  rw [hM, her] at HL
  have HRL := Lib.hid (fun w' (kk : Keep w3 w') => rlay_any g s A0 n0 c0 xs w' ((B0.out.up K3.out).up kk))
  rw [hM, her] at HRL
  clear hM her
  go_wp2_with fail
  refine HL.out.mono ?_
  rintro e w4 ⟨A4, n4, c4, rfl, ⟨rs4, hr4, hc4, hx4⟩, ht4, hn4, k4⟩
  have K4 := Lib.hid k4
  have R4 := Lib.hid (hr4.mono fun b hb => hb.2)
  have T4 := Lib.hid ht4
  have X4 := Lib.hid hx4
  have P4 := Lib.hid (P3.out.keep k4)
  have z4 := P4.out.cell0
  clear hr4 hx4 ht4 k4 z0
  go_wp2_with fail
  refine (HRL.out w4 K4.out).mono ?_
  rintro e w5 h5
  obtain ⟨A5, n5, c5, rs5, rfl, hr5, hx5, k5⟩ := h5.rowsIn
  have K5 : Hid (Keep w3 w5) := K4.out.trans k5
  have hS := rsame_any n4 n5 c4 c5 A4 A5 _ _ rs4 rs5 w5 (R4.out.turned (Turned.of_keep (F := fun _ => False) k5) fun _ _ e => e) hr5 (fun b hb => Nat.lt_of_lt_of_le hb k5.size) (fun b hb => hb) (by omega)
  rw [X4.out, hx5, decide_eq_true rfl] at hS
  have HS := Lib.hid hS
  have KT := Lib.hid k5
  clear hS hr5 hx5 k5 h5 R4 X4 P4 z4
  go_wp2_with fail
  refine HS.out.mono ?_
  rintro e w6 ⟨rfl, q6, rfl⟩
  have K6 : Hid (Keep w4 (w5.drewN q6)) := KT.out.drewN q6
  have T6 : Hid (TurnAt (w5.drewN q6) w3.heap.size A4 n4) := by
    rcases T4.out with h | ⟨gr, b, S, c, P, ys, h1, h2, h3, h4, h5, h6, h7, h8, h9⟩
    · exact Or.inl h
    · exact Or.inr ⟨gr, b, S, c, P, ys, h1, h2, Nat.lt_of_lt_of_le h3 K6.out.size, h4, h5, h6, h7, fun k hk => K6.out.cell (p := ⟨gr, k, none⟩) h3 |>.trans (h8 k hk), h9.keep K6.out⟩
  have K36 : Hid (Keep w3 (w5.drewN q6)) := K4.out.trans K6.out
  generalize w5.drewN q6 = w6 at *
  clear HS KT T4 K4 K5 K6 HL HRL
  go_wp2_with fail
  go_loopw [87] (fun iv wr => ∃ i : Nat, i ≤ n4 ∧ iv = .int .i64 i ∧ TurnAt wr w3.heap.size A4 n4 ∧ Keep w3 wr) (fun iv _ => n4 - (intOf iv).toNat)
  case atStart => exact ⟨0, by omega, rfl, T6.out, K36.out⟩
  case round =>
    clear T6 K36
    obtain ⟨i, hi, rfl, ht, hk⟩ := hrel
    have HK := Lib.hid hk
    have f1 : (0 : Int) ≤ (i : Int) := Int.natCast_nonneg _
    by_cases hlt : i < n4
    · have f2 : (i : Int) < (n4 : Int) := by omega
      rcases ht with h0 | ⟨gr, b, S, c, P, ys, rfl, h2, h3, h4, h5, h6, h7, h8, h9⟩
      · omega
      have hp := h7 i hlt
      have cr := h8 i hlt
      obtain ⟨p, hpp⟩ : ∃ p, i * S = p := ⟨_, rfl⟩
      rw [hpp] at hp cr
      have cb := h9.cell (i := p) hp
      have fb := h9.frozen p
      have f3 : (0 : Int) < (S : Int) := by omega
      obtain ⟨y, hy⟩ : ∃ y, ys.getD p 0 = y := ⟨_, rfl⟩
      rw [hy] at cb
      obtain ⟨z, hz, hz2⟩ := xor_byte y
      have HT : Hid (TurnAt (wr.setCell ⟨b, p, none⟩ (.int .u8 (z : Int))) w3.heap.size (some ⟨gr, 0, none⟩) n4) :=
        Or.inr ⟨gr, b, S, c, P, ys.set p z, rfl, h2, by simpa [World.setCell] using h3, h4, h5, h6, h7, fun k hk => by
          rw [World.cell?_setCell_far _ _ _ _ (by show b ≠ gr; exact h5)]; exact h8 k hk, h9.stored hz2⟩
      have HK2 := Lib.hid (HK.out.setCell (a := ⟨b, p, none⟩) h4 (.int .u8 (z : Int)))
      clear hk h2 h3 h4 h5 h6 h7 h8 h9 hp hpp hy hz2
      go_wp2_with fail
      go_roundw
      case rel => exact ⟨i + 1, by omega, by go_num, HT.out, HK2.out⟩
      case measure => simp [intOf]; omega
    · obtain rfl : i = n4 := by omega
      have KW : Hid (Keep W wr) := K3.out.trans hk
      have P7 := Lib.hid (P3.out.keep hk)
      have z7 := P7.out.cell1
      have HO7 := Lib.hid (O3.out.keep hk)
      obtain ⟨rt, hrt⟩ : ∃ rt, rs.take k = rt := ⟨_, rfl⟩
      have RT : Hid (RowsAt wr wr.heap.size A1 k rt) := by show RowsAt _ _ _ _ _; rw [← hrt]; exact B1.out.upon KW.out
      have hT1 := ptake_any g s A1 k c1 rt wr RT.out
      have hT2 := fun w' (kk : Keep wr w') => rtake_any g s A1 k c1 rt w' (RT.out.upon kk)
      obtain ⟨V, hV⟩ : ∃ V, tkV g s (rowsOf rt) = V := ⟨_, rfl⟩
      obtain ⟨te, hte⟩ : ∃ te, tkE g s (rowsOf rt) = te := ⟨_, rfl⟩
      rw [hV, hte] at hT1 hT2
      have HT1 := Lib.hid hT1
      have HT2 := Lib.hid hT2
      clear hk ht hT1 hT2 hV hte hrt
      go_wp2_with fail
      refine HT1.out.mono ?_
      rintro e w8 ⟨A8, n8, c8, rfl, o8, k8⟩
      have O8 := Lib.hid o8
      have K8 := Lib.hid k8
      have P8 := Lib.hid (P7.out.keep k8)
      have z8 := P8.out.cell1
      clear o8 k8 z7
      go_wp2_with fail
      refine (HT2.out w8 K8.out).mono ?_
      rintro e w9 ⟨A9, n9, c9, rfl, o9, k9⟩
      have O9 := Lib.hid o9
      have K9 := Lib.hid k9
      clear o9 k9 z8
      go_wp2_with fail
      refine (awake_any w9).mono ?_
      rintro e w10 ⟨rfl, k10⟩
      have K10 := Lib.hid k10
      have E1 := Lib.hid (equal_any _ _ n8 n9 c8 c9 A8 A9 V V w10 (O8.out.keep (K9.out.trans k10)).bytes (O9.out.keep k10).bytes)
      rw [decide_eq_true rfl] at E1
      have KX : Hid (Keep wr w10) := K8.out.trans (K9.out.trans k10)
      have P10 := Lib.hid (P7.out.keep KX.out)
      have z10 := P10.out.cell0
      have E2 := Lib.hid (equal_any _ _ n0 n0 c3 c0 A3 A0 xs xs w10 (HO7.out.keep KX.out).bytes (B0.out.up (KW.out.trans KX.out)))
      rw [decide_eq_true rfl] at E2
      clear k10
      go_wp2_with fail
      refine E1.out.mono ?_
      rintro e w11 ⟨rfl, rfl⟩
      go_wp2_with fail
      refine E2.out.mono ?_
      rintro e w12 ⟨rfl, rfl⟩
      go_wp2_with fail
      go_ret
      exact ⟨rfl, KW.out.trans KX.out⟩
end Go.Proofs.Ytbmfjikkmkmgeaa
