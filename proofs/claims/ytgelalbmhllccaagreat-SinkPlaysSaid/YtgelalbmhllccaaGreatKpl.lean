/- The walk of SinkPlays. -/
import Derived.Test.YtgelalbmhllccaaGreatQau
import Derived.Test.YtgelalbmhllccaaGreatQab
import Derived.OwnWalk
import Derived.Deep.DeepCutAuto
import Derived.Deep.CutBlock
import Derived.Deep.RegionHeld3
namespace Go.Proofs.YtgelalbmhllccaaGreat
open Go.RowKit Lin
set_option linter.unusedVariables false
set_option linter.unusedSimpArgs false
/-- What stands in the beginning's box. -/
structure BgV (w wx : World) (B0 : Nat) (G S K : Int) (N : Nat) : Prop where
  b : wx.heap[B0]? = some (.cells #[.int .i64 G, .int .i64 S, .int .i64 K, .int .u64 (N : Int)] 24 (0, 0))
  k : Keep w wx
  ge : w.heap.size = B0
namespace BgV
variable {w wx wy : World} {B0 N : Nat} {G S K : Int}
theorem later (h : BgV w wx B0 G S K N) (k : Keep wx wy) : BgV w wy B0 G S K N := ⟨(k.block B0 (Array.getElem?_eq_some_iff.1 h.b).1).trans h.b, h.k.trans k, h.ge⟩
theorem c0 (h : BgV w wx B0 G S K N) : wx.cell? ⟨B0, 0, none⟩ = some (.int .i64 G) := cell_of_row _ _ _ _ _ _ h.b
theorem c1 (h : BgV w wx B0 G S K N) : wx.cell? ⟨B0, 1, none⟩ = some (.int .i64 S) := cell_of_row _ _ _ _ _ _ h.b
theorem c2 (h : BgV w wx B0 G S K N) : wx.cell? ⟨B0, 2, none⟩ = some (.int .i64 K) := cell_of_row _ _ _ _ _ _ h.b
theorem c3 (h : BgV w wx B0 G S K N) : wx.cell? ⟨B0, 3, none⟩ = some (.int .u64 (N : Int)) := cell_of_row _ _ _ _ _ _ h.b
theorem free (h : BgV w wx B0 G S K N) (i : Nat) : wx.frozen? ⟨B0, i, none⟩ = false := by simp [World.frozen?, h.b]
theorem set0 (h : BgV w wx B0 G S K N) (G' : Int) : BgV w (wx.setCell ⟨B0, 0, none⟩ (.int .i64 G')) B0 G' S K N := ⟨by rw [bset h.b]; rfl, h.k.setCell (by show w.heap.size ≤ B0; exact Nat.le_of_eq h.ge) _, h.ge⟩
theorem set1 (h : BgV w wx B0 G S K N) (S' : Int) : BgV w (wx.setCell ⟨B0, 1, none⟩ (.int .i64 S')) B0 G S' K N := ⟨by rw [bset h.b]; rfl, h.k.setCell (by show w.heap.size ≤ B0; exact Nat.le_of_eq h.ge) _, h.ge⟩
end BgV
theorem lies_under {w w2 : World} {N : Nat} {r : RowV} {G : Nat → Prop} (h : LiesIn w (fun x => x < N) r) (t : Turned G w w2) (hG : ∀ a, G a → N ≤ a) : LiesIn w2 (fun x => x < N) r := h.turned t fun b hb e => by have := hG b e; omega
theorem lies_keepN {w w2 : World} {N : Nat} {r : RowV} (h : LiesIn w (fun x => x < N) r) (k : Keep w w2) : LiesIn w2 (fun x => x < N) r := lies_under h (Turned.of_keep (F := fun _ => False) k) fun _ e => e.elim
theorem quiet_drewK {P : Program} {f : FuncId} {args : Array Value} {w : World} {n : Nat} {v : Value}
    (h : Calls P f args (w.drewN n) fun e w' => e = .returned v ∧ ∃ m, w' = (w.drewN n).drewN m) : Calls P f args (w.drewN n) fun e w'' => e = .returned v ∧ ∃ m, w'' = w.drewN m :=
  h.mono fun _ _ h => ⟨h.1, by obtain ⟨m, e⟩ := h.2; exact ⟨n + m, by rw [e, World.drewN_drewN]⟩⟩
theorem refk_drewN {w : World} {q got of : Nat} {g s : Int} {kn br : Bool} (h : RefK w q g s got of kn br) (m : Nat) : RefK (w.drewN m) q g s got of kn br := ⟨h.block, h.may, h.top⟩
theorem least_k (a b m : Nat) (B : Int) (hB : B = (b : Int)) (h : min a b = m) (w : World) : (Builtin.min_ #[3, 3] 3 #[.int .i64 (a : Int), .int .i64 B]).run Tryz.prog w = .ok (.int .i64 (m : Int)) w := by
  subst hB
  rw [run_min_int2]; congr 2; split <;> omega
theorem head_k {P : Program} {t : TypeId} {z : Value} {q : Nat} (ht : P.underlying t = some (.slice (P.elem t))) (hi : (P.info? (P.elem t)).map (fun i => (i.zero, i.size, i.bytes)) = some (some z, 1, q)) (n m c : Nat) (A : Option Addr) (h : n ≤ c) (w : World) :
    (Instr.slice t (.slice A m c) none (some (.int .i64 (n : Int))) none).run P w = .ok (.slice A n c) w := by
  obtain ⟨i0, hi0, hz0, hz1, hz2⟩ := info_parts hi
  rw [run_slice_h (P := P) (w := w) t A m c ht .i64 n (by omega) (by omega)]
  have ha : A.map (fun x : Addr => x.add 0) = A := by
    cases A with
    | none => rfl
    | some a =>
      obtain ⟨b, off, spot⟩ := a
      simp [Addr.add]
  simp [sizeOf, typeInfo, hi0, hz1, sliced, ha]
set_option maxRecDepth 100000 in
theorem headb_k (n m c : Nat) (A : Option Addr) (h : n ≤ c) (w : World) : (Instr.slice 43 (.slice A m c) none (some (.int .i64 (n : Int))) none).run Tryz.prog w = .ok (.slice A n c) w :=
  head_k (by kernel_rfl) info5 n m c A h w
def nrmI (M g : Int) : Int := if 8 < g ∧ g ≤ M then 1 + g.tmod 8 else g
theorem nrm_wrap {g : Int} (h : 8 < g) : IntKind.i64.wrap (1 + g.tmod 8) = 1 + g.tmod 8 := by
  have h1 : g.tmod 8 = g % 8 := Int.tmod_eq_emod_of_nonneg (by omega)
  rw [h1]
  exact IntWalk.i64_in _ ⟨by omega, by omega⟩
set_option maxRecDepth 100000 in
set_option maxHeartbeats 16000000 in
theorem kplays_any (G S K : Int) (N n c : Nat) (A : Option Addr) (l : List SopV) (w : World) (h : SopsAt w w.heap.size A n l) (hn : n ≤ 140737488351232) (hN : N < 18446744073709551616) :
    Calls Tryz.prog 3 #[.agg #[.int .i64 G, .int .i64 S, .int .i64 K, .int .u64 (N : Int)], .slice A n c] w fun e w' => e = .returned (.bool true) ∧ Keep w w' := by
  have H := Lib.hid h
  clear h
  go_enter Tryz.func3, Tryz.ntmps3
  go_wp2_with fail
  obtain ⟨wb, hwb⟩ : ∃ v, w.alloc (.cells #[.int .i64 G, .int .i64 S, .int .i64 K, .int .u64 (N : Int)] 24) = v := ⟨_, rfl⟩
  obtain ⟨B0, hB0⟩ : ∃ v, w.heap.size = v := ⟨_, rfl⟩
  have HB : Hid (BgV w wb B0 G S K N) := ⟨by rw [← hwb, ← hB0]; exact heap_alloc_new w _, by rw [← hwb]; exact (Keep.refl w).alloc _ _, hB0⟩
  rw [hwb]
  try simp only [hB0]
  refine (sink_awake wb).mono ?_
  rintro e w1 ⟨rfl, k1⟩
  have HB1 := Lib.hid (HB.out.later k1)
  clear k1 hwb HB
  clear hB0
  go_upto_region 3 with fail
  go_cut [32] from 25 to 32 (fun v wx => ∃ z : Bool, v = .bool z ∧ wx = w1 ∧ (z = true ↔ 8 < G ∧ G ≤ 255))
  case first =>
    have y0 := HB1.out.c0
    by_cases f1 : 8 < G
    · have f1' : decide ((8 : Int) < G) = true := decide_eq_true f1
      by_cases f2 : G ≤ 255
      · have f2' : decide (G ≤ (255 : Int)) = true := decide_eq_true f2
        go_wp2_with fail
        go_meet
        case rel => exact ⟨_, rfl, rfl, fun _ => ⟨by omega, by omega⟩, fun _ => rfl⟩
      · have f2' : decide (G ≤ (255 : Int)) = false := decide_eq_false f2
        go_wp2_with fail
        go_meet
        case rel => exact ⟨_, rfl, rfl, fun e => (by cases e), fun e => (by omega)⟩
    · have f1' : decide ((8 : Int) < G) = false := decide_eq_false f1
      go_wp2_with fail
      go_meet
      case rel => exact ⟨_, rfl, rfl, fun e => (by cases e), fun e => (by omega)⟩
  case rest =>
  obtain ⟨z, rfl, hwc, hz⟩ := hcut
  have HZ := Lib.hid hz
  clear hz
  obtain rfl : w1 = wc := hwc.symm
  go_upto_if 32 with fail
  go_cut [] from 33 to 37 (fun wx => BgV w wx B0 (nrmI 255 G) S K N)
  case first =>
    have y0 := HB1.out.c0
    have z0 := HB1.out.free 0
    cases z with
    | true =>
      have hz := HZ.out.1 rfl
      have e2 : nrmI 255 G = 1 + G.tmod 8 := if_pos hz
      have e3 := nrm_wrap hz.1
      have HM := Lib.hid (HB1.out.set0 (nrmI 255 G))
      have HE := Lib.hid e2
      rw [e2] at HM
      clear hz e2 HZ
      go_wp2_with fail
      go_meet
      case rel => (rw [HE.out]; exact HM.out)
    | false =>
      have e2 : nrmI 255 G = G := if_neg fun e => by have := HZ.out.2 e; cases this
      have HE := Lib.hid e2
      clear e2 HZ
      go_wp2_with fail
      go_meet
      case rel => (rw [HE.out]; exact HB1.out)
  case rest =>
  obtain ⟨w2, rfl⟩ : ∃ v, v = wc := ⟨_, rfl⟩
  have HB2 := Lib.hid hcut
  clear hcut HB1
  go_upto_region 5 with fail
  go_cut [45] from 38 to 45 (fun v wx => ∃ z : Bool, v = .bool z ∧ wx = w2 ∧ (z = true ↔ 8 < S ∧ S ≤ 65535))
  case first =>
    have y0 := HB2.out.c1
    by_cases f1 : 8 < S
    · have f1' : decide ((8 : Int) < S) = true := decide_eq_true f1
      by_cases f2 : S ≤ 65535
      · have f2' : decide (S ≤ (65535 : Int)) = true := decide_eq_true f2
        go_wp2_with fail
        go_meet
        case rel => exact ⟨_, rfl, rfl, fun _ => ⟨by omega, by omega⟩, fun _ => rfl⟩
      · have f2' : decide (S ≤ (65535 : Int)) = false := decide_eq_false f2
        go_wp2_with fail
        go_meet
        case rel => exact ⟨_, rfl, rfl, fun e => (by cases e), fun e => (by omega)⟩
    · have f1' : decide ((8 : Int) < S) = false := decide_eq_false f1
      go_wp2_with fail
      go_meet
      case rel => exact ⟨_, rfl, rfl, fun e => (by cases e), fun e => (by omega)⟩
  case rest =>
  obtain ⟨z, rfl, hwc, hz⟩ := hcut
  have HZ := Lib.hid hz
  clear hz
  obtain rfl : w2 = wc := hwc.symm
  go_upto_if 45 with fail
  go_cut [] from 46 to 50 (fun wx => BgV w wx B0 (nrmI 255 G) (nrmI 65535 S) K N)
  case first =>
    have y0 := HB2.out.c1
    have z0 := HB2.out.free 1
    cases z with
    | true =>
      have hz := HZ.out.1 rfl
      have e2 : nrmI 65535 S = 1 + S.tmod 8 := if_pos hz
      have e3 := nrm_wrap hz.1
      have HM := Lib.hid (HB2.out.set1 (nrmI 65535 S))
      have HE := Lib.hid e2
      rw [e2] at HM
      clear hz e2 HZ
      go_wp2_with fail
      go_meet
      case rel => (rw [HE.out]; exact HM.out)
    | false =>
      have e2 : nrmI 65535 S = S := if_neg fun e => by have := HZ.out.2 e; cases this
      have HE := Lib.hid e2
      clear e2 HZ
      go_wp2_with fail
      go_meet
      case rel => (rw [HE.out]; exact HB2.out)
  case rest =>
  obtain ⟨w3, rfl⟩ : ∃ v, v = wc := ⟨_, rfl⟩
  have HB3 := Lib.hid hcut
  clear hcut HB2
  obtain ⟨g1, hg1⟩ : ∃ v, nrmI 255 G = v := ⟨_, rfl⟩
  obtain ⟨s1, hs1⟩ : ∃ v, nrmI 65535 S = v := ⟨_, rfl⟩
  rw [hg1, hs1] at HB3
  clear hg1 hs1
  have y0 := HB3.out.c0
  have y1 := HB3.out.c1
  have y3 := HB3.out.c3
  by_cases hm : MayG g1 s1 ∧ N ≤ topN
  · by_cases hk : 1 ≤ g1 ∧ g1 ≤ 255 ∧ 1 ≤ s1 ∧ s1 ≤ 65535 ∧ 1 ≤ K ∧ K ≤ 16
    · obtain ⟨g, rfl⟩ := Int.eq_ofNat_of_zero_le (show 0 ≤ g1 by omega)
      obtain ⟨s, rfl⟩ := Int.eq_ofNat_of_zero_le (show 0 ≤ s1 by omega)
      obtain ⟨k, rfl⟩ := Int.eq_ofNat_of_zero_le (show 0 ≤ K by omega)
      have HN := Lib.hid (lsnew_in (g : Int) (s : Int) N hm.1 hm.2 w3)
      have HD := Lib.hid (fun w => sknew_in (g : Int) (s : Int) N hm.1 hm.2 w)
      have HR := Lib.hid (fun w => relnew_in (g := g) (s := s) (k := k) (by omega) (by omega) (by omega) (by omega) (by omega) (by omega) w)
      have HZ := Lib.hid (fun w => rynew_in g s k (by omega) (by omega) (by omega) (by omega) (by omega) (by omega) w)
      clear hm hk
      as_aux_lemma =>
        go_wp2_with fail
        refine HN.out.mono ?_
        rintro e w4 ⟨rfl, sl, k4⟩
        have HB4 := Lib.hid (HB3.out.later k4)
        have HL4 := Lib.hid sl
        have Z3 : Hid (w.heap.size ≤ w3.heap.size) := HB3.out.k.size
        obtain ⟨q, hq⟩ : ∃ v, w3.heap.size = v := ⟨_, rfl⟩
        simp only [hq] at HL4 Z3 ⊢
        have y0 := HB4.out.c0
        have y1 := HB4.out.c1
        have y3 := HB4.out.c3
        clear sl k4 HN HB3 hq
        go_wp2_with fail
        refine (HD.out w4).mono ?_
        rintro e w5 ⟨rfl, sd, k5⟩
        have HB5 := Lib.hid (HB4.out.later k5)
        have HL5 := Lib.hid (HL4.out.keep k5)
        have HD5 := Lib.hid sd
        have Z4 : Hid (q < w4.heap.size) := HL4.out.lt
        obtain ⟨r, hr⟩ : ∃ v, w4.heap.size = v := ⟨_, rfl⟩
        simp only [hr] at HD5 Z4 ⊢
        have y0 := HB5.out.c0
        have y1 := HB5.out.c1
        have y2 := HB5.out.c2
        clear y3 sd k5 HD HB4 HL4 hr
        go_wp2_with fail
        refine (HR.out w5).mono ?_
        rintro e w6 ⟨p, F, rfl, r6, f6, k6⟩
        have HB6 := Lib.hid (HB5.out.later k6)
        have HL6 := Lib.hid (HL5.out.keep k6)
        have HD6 := Lib.hid (HD5.out.keep k6)
        have HR6 := Lib.hid (And.intro r6 (And.intro (show ∀ x, F x → w.heap.size ≤ x from fun x hx => Nat.le_trans HB5.out.k.size (f6 x hx)) (And.intro (show ¬ F q from fun e => by have := f6 _ e; have := HL5.out.lt; omega) (show ¬ F r from fun e => by have := f6 _ e; have := HD5.out.lt; omega))))
        have y0 := HB6.out.c0
        have y1 := HB6.out.c1
        have y2 := HB6.out.c2
        clear r6 f6 k6 HR HB5 HL5 HD5
        go_wp2_with fail
        refine (HZ.out w6).mono ?_
        rintro e w7 ⟨z, F', rfl, r7, f7, k7⟩
        have HK : Hid (BothK w w7 p z q r g s k 0 (fun _ => []) 0 (fun _ => []) F F' N 0 false false N 0 false false) :=
          ⟨⟨HR6.out.1.keep k7, r7, fun a ha hb => by have h1 := HR6.out.1.lt a ha; have h2 := f7 a hb; omega, HR6.out.2.1, fun a ha => Nat.le_trans HB6.out.k.size (f7 a ha), HB6.out.k.trans k7⟩, HL6.out.keep k7, HD6.out.keep k7,
            ⟨HR6.out.2.2.1, fun e => by have := f7 _ e; have := HL6.out.lt; omega, HR6.out.2.2.2, fun e => by have := f7 _ e; have := HD6.out.lt; omega, by have := Z4.out; omega⟩, ⟨Z3.out, by have := Z3.out; have := Z4.out; omega⟩⟩
        clear r7 f7 k7 HR6 HB6 HL6 HD6 HZ Z3 Z4 y0 y1 y2
        go_wp2_with fail
        go_loopw [128] (fun iv wz => ∃ (i b : Nat) (L : Nat → List (List Nat)) (F F' : Nat → Prop) (got of : Nat) (kn br : Bool), i ≤ n ∧ i ≤ 60 ∧ iv = .int .i64 (i : Int) ∧ BothK w wz p z q r g s k b L b L F F' got of kn br got of kn br) (fun iv _ => n - (intOf iv).toNat)
        case atStart => exact ⟨0, 0, _, F, F', N, 0, false, false, by omega, by omega, rfl, HK.out⟩
        case round =>
          clear HK
          obtain ⟨i, b, L, F, F', got, of, kn, br, hi, hi60, rfl, hB⟩ := hrel
          have HB := Lib.hid hB
          clear hB
          have e0 : (0 : Int) ≤ (i : Int) := Int.natCast_nonneg _
          by_cases f1 : i < n
          · have f1' : decide ((i : Int) < (n : Int)) = true := decide_eq_true (by omega)
            have f1'' : (i : Int) < (n : Int) := by omega
            obtain ⟨bo, oo, a, rfl, hbo, c0, c1, c2, c3, hA, hP, hgen⟩ := H.out.at_ HB.out.R.keep f1
            obtain ⟨what, gen, ⟨⟨Aa, na, ca, xa⟩, ⟨Ab, nb, cb, xb⟩⟩⟩ := a
            obtain ⟨ma, hma⟩ : ∃ v, min na 9 = v := ⟨_, rfl⟩
            obtain ⟨mb, hmb⟩ : ∃ v, min nb 9 = v := ⟨_, rfl⟩
            simp only at hA hP hgen c0 c1 c2 c3
            have HA0 := Lib.hid (LiesIn.of_bytes (r := ⟨Aa, ma, ca, xa.take ma⟩) (hA.1.cut (m := ma) (by omega)) (by show ma ≤ ca; have := hA.2.2; omega))
            have HP0 := Lib.hid (LiesIn.of_bytes (r := ⟨Ab, mb, cb, xb.take mb⟩) (hP.1.cut (m := mb) (by omega)) (by show mb ≤ cb; have := hP.2.2; omega))
            have HMIN := Lib.hid (And.intro (And.intro (least_k na 9 ma 9 rfl hma) (least_k nb 9 mb 9 rfl hmb)) (And.intro (headb_k ma na ca Aa (by have := hA.2.2; omega)) (headb_k mb nb cb Ab (by have := hP.2.2; omega))))
            have HG : Hid (gen < 18446744073709551616 ∧ ma ≤ 9 ∧ mb ≤ 9) := ⟨hgen, by omega, by omega⟩
            clear hA hP hgen hbo hma hmb
            go_upto_region 19 with fail
            have hob := heap_alloc_new wr (.cells #[.int .i64 what, .int .u64 (gen : Int), .slice Aa na ca, .slice Ab nb cb] 47)
            have hka := (Keep.refl wr).alloc #[.int .i64 what, .int .u64 (gen : Int), .slice Aa na ca, .slice Ab nb cb] 47
            obtain ⟨w1, hw1⟩ : ∃ v, wr.alloc (.cells #[.int .i64 what, .int .u64 (gen : Int), .slice Aa na ca, .slice Ab nb cb] 47) = v := ⟨_, rfl⟩
            obtain ⟨gs, hgs⟩ : ∃ v, wr.heap.size = v := ⟨_, rfl⟩
            have hap := HB.out.R.new_apart (a := gs) (Nat.le_of_eq hgs)
            have hql := HB.out.l.lt
            have hrl := HB.out.d.lt
            rw [hw1, hgs] at hob
            rw [hw1] at hka
            have HB1 := Lib.hid (HB.out.later hka)
            have HOB : Hid (ActB w1 gs #[.int .i64 what, .int .u64 (gen : Int), .slice Aa na ca, .slice Ab nb cb] F F' q r) := ⟨hob, hap.2.1, hap.2.2, by omega, by omega⟩
            have HA1 := Lib.hid (lies_keepN HA0.out hka)
            have HP1 := Lib.hid (lies_keepN HP0.out hka)
            have HGW : Hid (w.heap.size ≤ gs) := hap.1
            rw [hw1]
            try simp only [hgs]
            clear hob hka hap hql hrl hw1 hgs c0 c1 c2 c3 HB HA0 HP0
            by_cases f2 : i = 60
            · as_aux_lemma =>
                have f2' : ((i : Int) == 60) = true := by simp [f2]
                have HKE := Lib.hid HB1.out.R.keep
                clear f2 HB1 HOB HA1 HP1 HGW
                go_wp2_with fail
                go_ret
                exact ⟨rfl, HKE.out⟩
            · as_aux_lemma =>
                have f2' : ((i : Int) == 60) = false := by rw [beq_eq_false_iff_ne]; omega
                have hi60' : i + 1 ≤ 60 := by omega
                have HI60 := Lib.hid hi60'
                clear hi60' hi60 f2
                go_upto_region 20 with fail
                go_cut [] from 135 to 156 (fun wx => BothK w wx p z q r g s k b L b L F F' got of kn br got of kn br ∧ ActB wx gs #[.int .i64 what, .int .u64 (gen : Int), .slice Aa ma ca, .slice Ab mb cb] F F' q r ∧ LiesIn wx (fun x => x < w.heap.size) ⟨Aa, ma, ca, xa.take ma⟩ ∧ LiesIn wx (fun x => x < w.heap.size) ⟨Ab, mb, cb, xb.take mb⟩)
                case first =>
                  as_aux_lemma =>
                    have hfr : ∀ i, w1.frozen? ⟨gs, i, none⟩ = false := fun i => by simp [World.frozen?, HOB.out.b]
                    have b1 : (w1.setCell ⟨gs, 2, none⟩ (.slice Aa ma ca)).heap[gs]? = some (.cells #[.int .i64 what, .int .u64 (gen : Int), .slice Aa ma ca, .slice Ab nb cb] 47 (0, 0)) := by rw [bset HOB.out.b]; rfl
                    have t1 : Turned (fun a => a = gs) w1 (w1.setCell ⟨gs, 2, none⟩ (.slice Aa ma ca)).drew := (Turned.set (F := fun a => a = gs) w1 ⟨gs, 2, none⟩ _ rfl).then_keep (Keep.drew (Keep.refl _))
                    obtain ⟨w2, hw2⟩ : ∃ v, (w1.setCell ⟨gs, 2, none⟩ (.slice Aa ma ca)).drew = v := ⟨_, rfl⟩
                    have b2 : w2.heap[gs]? = some (.cells #[.int .i64 what, .int .u64 (gen : Int), .slice Aa ma ca, .slice Ab nb cb] 47 (0, 0)) := by rw [← hw2]; exact b1
                    rw [hw2] at t1
                    have hfr2 : w2.frozen? ⟨gs, 3, none⟩ = false := by simp [World.frozen?, b2]
                    have b3 : (w2.setCell ⟨gs, 3, none⟩ (.slice Ab mb cb)).heap[gs]? = some (.cells #[.int .i64 what, .int .u64 (gen : Int), .slice Aa ma ca, .slice Ab mb cb] 47 (0, 0)) := by rw [bset b2]; rfl
                    have t2 : Turned (fun a => a = gs) w2 (w2.setCell ⟨gs, 3, none⟩ (.slice Ab mb cb)) := Turned.set (F := fun a => a = gs) w2 ⟨gs, 3, none⟩ _ rfl
                    obtain ⟨w3, hw3⟩ : ∃ v, w2.setCell ⟨gs, 3, none⟩ (.slice Ab mb cb) = v := ⟨_, rfl⟩
                    rw [hw3] at b3 t2
                    have t3 : Turned (fun a => a = gs) w1 w3 := t1.trans t2 fun j e => Or.inl e
                    have HB3 := Lib.hid (HB1.out.other t3 fun a e => ⟨e ▸ HGW.out, e ▸ HOB.out.n, e ▸ HOB.out.n', e ▸ HOB.out.k.1, e ▸ HOB.out.k.2⟩)
                    have HOB3 : Hid (ActB w3 gs #[.int .i64 what, .int .u64 (gen : Int), .slice Aa ma ca, .slice Ab mb cb] F F' q r) := ⟨b3, HOB.out.n, HOB.out.n', HOB.out.k⟩
                    have HA3 := Lib.hid (lies_under HA1.out t3 fun a e => e ▸ HGW.out)
                    have HP3 := Lib.hid (lies_under HP1.out t3 fun a e => e ▸ HGW.out)
                    have x2 : w1.cell? ⟨gs, 2, none⟩ = some (.slice Aa na ca) := cell_of_row _ _ _ _ _ _ HOB.out.b
                    have x3 : w1.cell? ⟨gs, 3, none⟩ = some (.slice Ab nb cb) := cell_of_row _ _ _ _ _ _ HOB.out.b
                    have x2' : w1.drew.cell? ⟨gs, 2, none⟩ = some (.slice Aa na ca) := x2
                    have x3' : w1.drew.cell? ⟨gs, 3, none⟩ = some (.slice Ab nb cb) := x3
                    have z2 : w1.drew.frozen? ⟨gs, 2, none⟩ = false := hfr 2
                    have x4 : w2.cell? ⟨gs, 3, none⟩ = some (.slice Ab nb cb) := cell_of_row _ _ _ _ _ _ b2
                    have hmin0 := HMIN.out.1.1
                    have hmin1 := HMIN.out.1.2
                    have hhead0 := HMIN.out.2.1
                    have hhead1 := HMIN.out.2.2
                    have HW2 := Lib.hid hw2
                    have HW3 := Lib.hid hw3
                    clear hfr b1 t1 b2 b3 t2 t3 hw2 hw3 HB1 HOB HA1 HP1 HGW HMIN
                    refine wp_region_till [20, 23] (fun wz => wz.cell? ⟨gs, 2, none⟩ = some (.slice Aa na ca) ∧ wz.cell? ⟨gs, 3, none⟩ = some (.slice Ab nb cb)) (by kernel_rfl) ?_
                    have hHeld : (fun wz : World => wz.cell? ⟨gs, 2, none⟩ = some (.slice Aa na ca) ∧ wz.cell? ⟨gs, 3, none⟩ = some (.slice Ab nb cb)) w1.drew := ⟨x2', x3'⟩
                    refine wpTill_free (i := 0) (v := ?_) rfl (by kernel_rfl) (by kernel_rfl) (by kernel_rfl) (by kernel_rfl) (fun _ _ _ h => h) (Or.inl ⟨by kernel_rfl, ?_⟩) hHeld ?_
                    rotate_left
                    · intro wq _
                      go_simp
                      all_goals with_reducible rfl
                    try simp only [Act.put, List.getElem_toArray, List.getElem_cons_succ, List.getElem_cons_zero, List.setIfInBounds_toArray, List.set_cons_zero, List.set_cons_succ]
                    refine wpTill_free (i := 1) (v := ?_) rfl (by kernel_rfl) (by kernel_rfl) (by kernel_rfl) (by kernel_rfl) (fun _ _ _ h => h) (Or.inl ⟨by kernel_rfl, ?_⟩) hHeld ?_
                    rotate_left
                    · intro wq _
                      go_simp
                      all_goals with_reducible rfl
                    try simp only [Act.put, List.getElem_toArray, List.getElem_cons_succ, List.getElem_cons_zero, List.setIfInBounds_toArray, List.set_cons_zero, List.set_cons_succ]
                    refine wpTill_take (i := 2) (v := ?_) rfl (by kernel_rfl) (by kernel_rfl) (by kernel_rfl) (by kernel_rfl) (fun _ _ _ h => h) (Or.inl ⟨by kernel_rfl, ?_⟩) hHeld ?_
                    rotate_left
                    · intro wq hSw
                      have q0 := hSw.1
                      go_simp
                      all_goals with_reducible rfl
                    try simp only [Act.put, List.getElem_toArray, List.getElem_cons_succ, List.getElem_cons_zero, List.setIfInBounds_toArray, List.set_cons_zero, List.set_cons_succ]
                    refine wpTill_free (i := 3) (v := ?_) rfl (by kernel_rfl) (by kernel_rfl) (by kernel_rfl) (by kernel_rfl) (fun _ _ _ h => h) (Or.inl ⟨by kernel_rfl, ?_⟩) hHeld ?_
                    rotate_left
                    · intro wq _
                      go_simp
                      all_goals with_reducible rfl
                    try simp only [Act.put, List.getElem_toArray, List.getElem_cons_succ, List.getElem_cons_zero, List.setIfInBounds_toArray, List.set_cons_zero, List.set_cons_succ]
                    refine wpTill_free (i := 4) (v := ?_) rfl (by kernel_rfl) (by kernel_rfl) (by kernel_rfl) (by kernel_rfl) (fun _ _ _ h => h) (Or.inl ⟨by kernel_rfl, ?_⟩) hHeld ?_
                    rotate_left
                    · intro wq _
                      go_simp
                      all_goals with_reducible rfl
                    try simp only [Act.put, List.getElem_toArray, List.getElem_cons_succ, List.getElem_cons_zero, List.setIfInBounds_toArray, List.set_cons_zero, List.set_cons_succ]
                    refine wpTill_take (i := 5) (v := ?_) rfl (by kernel_rfl) (by kernel_rfl) (by kernel_rfl) (by kernel_rfl) (fun _ _ _ h => h) (Or.inl ⟨by kernel_rfl, ?_⟩) hHeld ?_
                    rotate_left
                    · intro wq hSw
                      have q0 := hSw.1
                      go_simp
                      all_goals with_reducible rfl
                    try simp only [Act.put, List.getElem_toArray, List.getElem_cons_succ, List.getElem_cons_zero, List.setIfInBounds_toArray, List.set_cons_zero, List.set_cons_succ]
                    refine wpTill_free (i := 6) (v := ?_) rfl (by kernel_rfl) (by kernel_rfl) (by kernel_rfl) (by kernel_rfl) (fun _ _ _ h => h) (Or.inl ⟨by kernel_rfl, ?_⟩) hHeld ?_
                    rotate_left
                    · intro wq _
                      go_simp
                      all_goals with_reducible rfl
                    try simp only [Act.put, List.getElem_toArray, List.getElem_cons_succ, List.getElem_cons_zero, List.setIfInBounds_toArray, List.set_cons_zero, List.set_cons_succ]
                    refine wpTill_free (i := 7) (v := ?_) rfl (by kernel_rfl) (by kernel_rfl) (by kernel_rfl) (by kernel_rfl) (fun _ _ _ h => h) (Or.inl ⟨by kernel_rfl, ?_⟩) hHeld ?_
                    rotate_left
                    · intro wq _
                      go_simp
                      all_goals with_reducible rfl
                    try simp only [Act.put, List.getElem_toArray, List.getElem_cons_succ, List.getElem_cons_zero, List.setIfInBounds_toArray, List.set_cons_zero, List.set_cons_succ]
                    refine wpTill_free (i := 8) (v := ?_) rfl (by kernel_rfl) (by kernel_rfl) (by kernel_rfl) (by kernel_rfl) (fun _ _ _ h => h) (Or.inl ⟨by kernel_rfl, ?_⟩) hHeld ?_
                    rotate_left
                    · intro wq _
                      go_simp
                      all_goals with_reducible rfl
                    try simp only [Act.put, List.getElem_toArray, List.getElem_cons_succ, List.getElem_cons_zero, List.setIfInBounds_toArray, List.set_cons_zero, List.set_cons_succ]
                    refine wpTill_free (i := 9) (v := ?_) rfl (by kernel_rfl) (by kernel_rfl) (by kernel_rfl) (by kernel_rfl) (fun _ _ _ h => h) (Or.inl ⟨by kernel_rfl, ?_⟩) hHeld ?_
                    rotate_left
                    · intro wq _
                      go_simp
                      all_goals with_reducible rfl
                    try simp only [Act.put, List.getElem_toArray, List.getElem_cons_succ, List.getElem_cons_zero, List.setIfInBounds_toArray, List.set_cons_zero, List.set_cons_succ]
                    refine wpTill_free (i := 10) (v := ?_) rfl (by kernel_rfl) (by kernel_rfl) (by kernel_rfl) (by kernel_rfl) (fun _ _ _ h => h) (Or.inl ⟨by kernel_rfl, ?_⟩) hHeld ?_
                    rotate_left
                    · intro wq _
                      go_simp
                      all_goals with_reducible rfl
                    try simp only [Act.put, List.getElem_toArray, List.getElem_cons_succ, List.getElem_cons_zero, List.setIfInBounds_toArray, List.set_cons_zero, List.set_cons_succ]
                    refine wpTill_take (i := 11) (v := ?_) rfl (by kernel_rfl) (by kernel_rfl) (by kernel_rfl) (by kernel_rfl) (fun _ _ _ h => h) (Or.inl ⟨by kernel_rfl, ?_⟩) hHeld ?_
                    rotate_left
                    · intro wq hSw
                      have q0 := hSw.2
                      go_simp
                      all_goals with_reducible rfl
                    try simp only [Act.put, List.getElem_toArray, List.getElem_cons_succ, List.getElem_cons_zero, List.setIfInBounds_toArray, List.set_cons_zero, List.set_cons_succ]
                    refine wpTill_free (i := 12) (v := ?_) rfl (by kernel_rfl) (by kernel_rfl) (by kernel_rfl) (by kernel_rfl) (fun _ _ _ h => h) (Or.inl ⟨by kernel_rfl, ?_⟩) hHeld ?_
                    rotate_left
                    · intro wq _
                      go_simp
                      all_goals with_reducible rfl
                    try simp only [Act.put, List.getElem_toArray, List.getElem_cons_succ, List.getElem_cons_zero, List.setIfInBounds_toArray, List.set_cons_zero, List.set_cons_succ]
                    refine wpTill_free (i := 13) (v := ?_) rfl (by kernel_rfl) (by kernel_rfl) (by kernel_rfl) (by kernel_rfl) (fun _ _ _ h => h) (Or.inl ⟨by kernel_rfl, ?_⟩) hHeld ?_
                    rotate_left
                    · intro wq _
                      go_simp
                      all_goals with_reducible rfl
                    try simp only [Act.put, List.getElem_toArray, List.getElem_cons_succ, List.getElem_cons_zero, List.setIfInBounds_toArray, List.set_cons_zero, List.set_cons_succ]
                    refine wpTill_take (i := 14) (v := ?_) rfl (by kernel_rfl) (by kernel_rfl) (by kernel_rfl) (by kernel_rfl) (fun _ _ _ h => h) (Or.inl ⟨by kernel_rfl, ?_⟩) hHeld ?_
                    rotate_left
                    · intro wq hSw
                      have q0 := hSw.2
                      go_simp
                      all_goals with_reducible rfl
                    try simp only [Act.put, List.getElem_toArray, List.getElem_cons_succ, List.getElem_cons_zero, List.setIfInBounds_toArray, List.set_cons_zero, List.set_cons_succ]
                    refine wpTill_free (i := 15) (v := ?_) rfl (by kernel_rfl) (by kernel_rfl) (by kernel_rfl) (by kernel_rfl) (fun _ _ _ h => h) (Or.inl ⟨by kernel_rfl, ?_⟩) hHeld ?_
                    rotate_left
                    · intro wq _
                      go_simp
                      all_goals with_reducible rfl
                    try simp only [Act.put, List.getElem_toArray, List.getElem_cons_succ, List.getElem_cons_zero, List.setIfInBounds_toArray, List.set_cons_zero, List.set_cons_succ]
                    refine wpTill_free (i := 16) (v := ?_) rfl (by kernel_rfl) (by kernel_rfl) (by kernel_rfl) (by kernel_rfl) (fun _ _ _ h => h) (Or.inl ⟨by kernel_rfl, ?_⟩) hHeld ?_
                    rotate_left
                    · intro wq _
                      go_simp
                      all_goals with_reducible rfl
                    try simp only [Act.put, List.getElem_toArray, List.getElem_cons_succ, List.getElem_cons_zero, List.setIfInBounds_toArray, List.set_cons_zero, List.set_cons_succ]
                    refine wpTill_free (i := 17) (v := ?_) rfl (by kernel_rfl) (by kernel_rfl) (by kernel_rfl) (by kernel_rfl) (fun _ _ _ h => h) (Or.inl ⟨by kernel_rfl, ?_⟩) hHeld ?_
                    rotate_left
                    · intro wq _
                      go_simp
                      all_goals with_reducible rfl
                    try simp only [Act.put, List.getElem_toArray, List.getElem_cons_succ, List.getElem_cons_zero, List.setIfInBounds_toArray, List.set_cons_zero, List.set_cons_succ]
                    refine wpTill_free (i := 18) (v := ?_) rfl (by kernel_rfl) (by kernel_rfl) (by kernel_rfl) (by kernel_rfl) (fun _ _ _ h => h) (Or.inl ⟨by kernel_rfl, ?_⟩) hHeld ?_
                    rotate_left
                    · intro wq _
                      go_simp
                      all_goals with_reducible rfl
                    try simp only [Act.put, List.getElem_toArray, List.getElem_cons_succ, List.getElem_cons_zero, List.setIfInBounds_toArray, List.set_cons_zero, List.set_cons_succ]
                    refine wpTill_free (i := 19) (v := ?_) rfl (by kernel_rfl) (by kernel_rfl) (by kernel_rfl) (by kernel_rfl) (fun _ _ _ h => h) (Or.inl ⟨by kernel_rfl, ?_⟩) hHeld ?_
                    rotate_left
                    · intro wq _
                      go_simp
                      all_goals with_reducible rfl
                    try simp only [Act.put, List.getElem_toArray, List.getElem_cons_succ, List.getElem_cons_zero, List.setIfInBounds_toArray, List.set_cons_zero, List.set_cons_succ]
                    refine wpTill_turn (t := 20) (by kernel_rfl) (by kernel_rfl) (by kernel_rfl) ?_
                    clear hHeld
                    have hHeld : (fun _ : World => True) w1.drew := trivial
                    refine wpAnyH_ready (rs := [20]) (by kernel_rfl) (by simp) ?_
                    refine AllReadyH.cons rfl (fun K hK => ?_) AllReadyH.nil
                    go_simp
                    rw [HW2.out]
                    refine hK.out _ _ trivial (fun hHeld => ?_)
                    clear hK K
                    try simp only [Act.put, List.getElem_toArray, List.getElem_cons_succ, List.getElem_cons_zero, List.setIfInBounds_toArray, List.set_cons_zero, List.set_cons_succ]
                    refine wpAnyH_take (i := 21) (v := ?_) rfl (by kernel_rfl) (by kernel_rfl) (by kernel_rfl) (fun _ _ _ h => h) (Or.inl ⟨by rfl, ?_⟩) hHeld ?_
                    rotate_left
                    · intro wq hSw
                      go_simp
                      all_goals with_reducible rfl
                    try simp only [Act.put, List.getElem_toArray, List.getElem_cons_succ, List.getElem_cons_zero, List.setIfInBounds_toArray, List.set_cons_zero, List.set_cons_succ]
                    refine wpAnyH_take (i := 22) (v := ?_) rfl (by kernel_rfl) (by kernel_rfl) (by kernel_rfl) (fun _ _ _ h => h) (Or.inl ⟨by rfl, ?_⟩) hHeld ?_
                    rotate_left
                    · intro wq hSw
                      go_simp
                      all_goals with_reducible rfl
                    try simp only [Act.put, List.getElem_toArray, List.getElem_cons_succ, List.getElem_cons_zero, List.setIfInBounds_toArray, List.set_cons_zero, List.set_cons_succ]
                    refine wpAnyH_ready (rs := [23]) (by kernel_rfl) (by simp) ?_
                    refine AllReadyH.cons rfl (fun K hK => ?_) AllReadyH.nil
                    go_simp
                    rw [HW3.out]
                    refine hK.out _ _ trivial (fun hHeld => ?_)
                    clear hK K
                    try simp only [Act.put, List.getElem_toArray, List.getElem_cons_succ, List.getElem_cons_zero, List.setIfInBounds_toArray, List.set_cons_zero, List.set_cons_succ]
                    refine wpAnyH_done (by kernel_rfl) ?_ _
                    clear x2 x3 x2' x3' z2 x4 hmin0 hmin1 hhead0 hhead1 hfr2 HW2 HW3 hHeld
                    go_wp2_with fail
                    go_meet
                    case rel => exact ⟨HB3.out, HOB3.out, HA3.out, HP3.out⟩
                case rest =>
                obtain ⟨w3, rfl⟩ : ∃ v, v = wc := ⟨_, rfl⟩
                have HB3 := Lib.hid hcut.1
                have HOB3 := Lib.hid hcut.2.1
                have HA3 := Lib.hid hcut.2.2.1
                have HP3 := Lib.hid hcut.2.2.2
                clear hcut HB1 HOB HA1 HP1 HGW HMIN
                have d0 : w3.cell? ⟨gs, 0, none⟩ = some (.int .i64 what) := cell_of_row _ _ _ _ _ _ HOB3.out.b
                go_upto_block 2 with fail
                go_cut [17, 18, 19, 20] from 157 to 216 (fun _ _ _ _ wx => ∃ (b2 : Nat) (L2 : Nat → List (List Nat)) (F2 F2' : Nat → Prop) (got2 of2 : Nat) (kn2 br2 : Bool), BothK w wx p z q r g s k b2 L2 b2 L2 F2 F2' got2 of2 kn2 br2 got2 of2 kn2 br2)
                case first =>
                  by_cases x0 : what = 0
                  · have y0 : (what == 0) = true := beq_iff_eq.2 x0
                    have z0 : decide (what = 0) = true := decide_eq_true x0
                    clear x0
                    as_aux_lemma =>
                      have d1 : w3.cell? ⟨gs, 1, none⟩ = some (.int .u64 (gen : Int)) := cell_of_row _ _ _ _ _ _ HOB3.out.b
                      have d2 : w3.cell? ⟨gs, 2, none⟩ = some (.slice Aa ma ca) := cell_of_row _ _ _ _ _ _ HOB3.out.b
                      have d3 : w3.cell? ⟨gs, 3, none⟩ = some (.slice Ab mb cb) := cell_of_row _ _ _ _ _ _ HOB3.out.b
                      have hsz := HB3.out.R.keep.size
                      have HT := Lib.hid (rl_take_all HB3.out.R.y gen HG.out.1 _ _ ma mb ca cb Aa Ab (xa.take ma) (xb.take mb) HA3.out.2.2.1 HP3.out.2.2.1 (HA3.out.bytes fun _ e => e) (HP3.out.bytes fun _ e => e) hsz hsz)
                      obtain ⟨tt, htt⟩ : ∃ v, yTakeT g s k b L gen ma mb (xa.take ma ++ xb.take mb) = v := ⟨_, rfl⟩
                      obtain ⟨te, hte⟩ : ∃ v, yTakeE g s k b gen ma mb = v := ⟨_, rfl⟩
                      obtain ⟨LT, hLT⟩ : ∃ v, yTakeL g s k b L gen ma mb (xa.take ma ++ xb.take mb) = v := ⟨_, rfl⟩
                      have h2 : ∀ (w4 : World) (F4 : Nat → Prop), RefY w4 F' z g s k b L → (LiesIn w4 (fun x => x < w.heap.size) ⟨Aa, ma, ca, xa.take ma⟩ ∧ LiesIn w4 (fun x => x < w.heap.size) ⟨Ab, mb, cb, xb.take mb⟩) → w.heap.size ≤ w4.heap.size → Calls Tryz.prog 12 #[.pointer (some ⟨z, 0, none⟩), .int .u64 (gen : Int), .agg #[.slice Aa ma ca, .slice Ab mb cb]] w4 fun e w' => e = .returned (.tuple #[.bool tt, .int .i64 te]) ∧ ∃ F5, YNext w4 w' F' F5 z g s k b LT := fun w4 F4 hb hl hs => by
                        have h := ytake_all hb gen ⟨⟨Aa, ma, ca, xa.take ma⟩, ⟨Ab, mb, cb, xb.take mb⟩⟩ hl fun a ha => ⟨Nat.lt_of_lt_of_le ha hs, fun e => by have := HB3.out.R.lo' a e; omega⟩
                        rw [← htt, ← hte, ← hLT]
                        exact h
                      have HT2 := Lib.hid h2
                      rw [htt, hte, hLT] at HT
                      clear d0 h2 htt hte hLT hsz
                      go_wp2_with fail
                      refine HT.out.mono ?_
                      rintro e w4 ⟨rfl, F4, r4, f4, t4⟩
                      have HB4 := Lib.hid (HB3.out.left r4 f4 t4)
                      have HOB4 := Lib.hid (HOB3.out.left f4 t4)
                      have HL4 := Lib.hid (And.intro (lies_under HA3.out t4 HB3.out.R.lo) (lies_under HP3.out t4 HB3.out.R.lo))
                      have q1 : w4.cell? ⟨gs, 1, none⟩ = some (.int .u64 (gen : Int)) := cell_of_row _ _ _ _ _ _ HOB4.out.b
                      have q2 : w4.cell? ⟨gs, 2, none⟩ = some (.slice Aa ma ca) := cell_of_row _ _ _ _ _ _ HOB4.out.b
                      have q3 : w4.cell? ⟨gs, 3, none⟩ = some (.slice Ab mb cb) := cell_of_row _ _ _ _ _ _ HOB4.out.b
                      clear d1 d2 d3 r4 f4 t4 HT HB3 HOB3 HA3 HP3
                      go_wp2_with fail
                      refine (HT2.out w4 F4 HB4.out.R.z HL4.out HB4.out.R.keep.size).mono ?_
                      rintro e w5 ⟨rfl, F5, y5⟩
                      have HB5 := Lib.hid (HB4.out.right y5)
                      clear q1 q2 q3 y5 HT2 HB4 HOB4 HL4
                      go_wp2_with fail
                      go_meet
                      case rel => exact ⟨_, _, _, _, _, _, _, _, HB5.out⟩
                  · have y0 : (what == 0) = false := beq_eq_false_iff_ne.2 x0
                    have z0 : decide (what = 0) = false := decide_eq_false x0
                    clear x0
                    by_cases x1 : what = 1
                    · have y1 : (what == 1) = true := beq_iff_eq.2 x1
                      have z1 : decide (what = 1) = true := decide_eq_true x1
                      clear x1
                      as_aux_lemma =>
                        have HR := Lib.hid (krel_all HB3.out.l HB3.out.R.y HB3.out.n.1)
                        clear d0
                        go_wp2_with fail
                        refine HR.out.mono ?_
                        rintro e w4 ⟨A4, n4, c4, rs4, m4, br4, rfl, h41, h42, h43, s4, y4, t4⟩
                        have HB4 := Lib.hid (HB3.out.sinkL s4 t4)
                        have H4 := Lib.hid (And.intro h41 h42)
                        have HR4 := Lib.hid h43
                        clear h41 h42 h43 s4 y4 t4 HR
                        go_wp2_with fail
                        refine (skrel_all HB4.out.d HB4.out.R.z HB4.out.n.2.2.2.1).mono ?_
                        rintro e w5 ⟨A5, n5, c5, rs5, F5, m5, br5, rfl, h51, h52, h53, d5, y5, f5, nr5, t5⟩
                        obtain ⟨ers, rfl, rfl⟩ := rel_same H4.out.1 H4.out.2 h51 h52
                        have HB5 := Lib.hid (HB4.out.sinkR d5 y5 f5 nr5 t5)
                        have hn4 : n4 ≤ 140737488355328 := by
                          have h1 : rs4.length = n4 := HR4.out.1
                          have h2 := HB3.out.R.y.fine
                          have h3 : rs4.length ≤ k := by
                            cases br with
                            | true => rw [(H4.out.2 rfl).1]; simp
                            | false =>
                              have h := H4.out.1 rfl
                              have h4 := RelI.few ⟨h.j, h.at_⟩
                              rwa [rowsXs_len] at h4
                          omega
                        have hsame := rsame_any n4 n5 c4 c5 A4 A5 _ _ rs4 rs5 w5 (HR4.out.turned t5 fun x e e2 => by
                          rcases e2 with e2 | e2
                          · have := HB3.out.R.z.lt x e2; omega
                          · have := HB3.out.d.lt; omega) h53 (fun x e => Nat.lt_of_lt_of_le e.2 t5.size) (fun x e => e.2) hn4
                        rw [decide_eq_true ers] at hsame
                        have HS := Lib.hid hsame
                        have e1 : (relE br4 != relE br4) = false := by simp
                        have e2 : (relE br4 == relE br4) = true := by simp
                        clear h51 h52 h53 d5 y5 f5 nr5 t5 hsame hn4 ers HR4 H4 HB4 HB3 HOB3 HA3 HP3
                        go_wp2_with fail
                        refine HS.out.mono ?_
                        rintro e w6 ⟨rfl, m, rfl⟩
                        have HB6 := Lib.hid (HB5.out.later ((Keep.refl w5).drewN m))
                        clear HB5 HS
                        go_wp2_with fail
                        go_meet
                        case rel => exact ⟨_, _, _, _, _, _, _, _, HB6.out⟩
                    · have y1 : (what == 1) = false := beq_eq_false_iff_ne.2 x1
                      have z1 : decide (what = 1) = false := decide_eq_false x1
                      clear x1
                      by_cases x2 : what = 2
                      · have y2 : (what == 2) = true := beq_iff_eq.2 x2
                        have z2 : decide (what = 2) = true := decide_eq_true x2
                        clear x2
                        as_aux_lemma =>
                          have d1 : w3.cell? ⟨gs, 1, none⟩ = some (.int .u64 (gen : Int)) := cell_of_row _ _ _ _ _ _ HOB3.out.b
                          obtain ⟨te, hte⟩ : ∃ v, ltotE got of gen kn = v := ⟨_, rfl⟩
                          have HKD := Keep.drew (Keep.refl w3)
                          have HT := Lib.hid (ltotal_any (HB3.out.l.keep HKD) gen HG.out.1)
                          have h2 : ∀ w4, RefK w4 r (g : Int) (s : Int) got of kn br → Calls Tryz.prog 16 #[.pointer (some ⟨r, 0, none⟩), .int .u64 (gen : Int)] w4 fun e w' => e = .returned (.int .i64 te) ∧ RefK w' r (g : Int) (s : Int) got (ltotOf got of gen kn) (ltotKn got of gen kn) br ∧ Turned (fun a => a = r) w4 w' := fun w4 hd => by
                            rw [← hte]; exact sktotal_any hd gen HG.out.1
                          have HT2 := Lib.hid h2
                          rw [hte] at HT
                          have HB3d := Lib.hid (HB3.out.later HKD)
                          have HOB3d := Lib.hid (HOB3.out.later HKD)
                          have e1 : (te != te) = false := by simp
                          have e2 : (te == te) = true := by simp
                          clear d0 h2 hte HKD HB3 HOB3 HA3 HP3
                          go_wp2_with fail
                          refine wp_region_noPanic ?_
                          refine wp_region_held_drew (S := fun wz => wz.cell? ⟨gs, 1, none⟩ = some (.int .u64 (gen : Int))) (by kernel_rfl) d1 (fun hHeld => ?_)
                          refine wpAnyH_take (i := 0) (v := ?_) rfl (by kernel_rfl) (by kernel_rfl) (by kernel_rfl) (fun _ _ _ h => h) (Or.inl ⟨by kernel_rfl, ?_⟩) hHeld ?_
                          rotate_left
                          · intro wq hSw
                            go_simp
                            all_goals with_reducible rfl
                          try simp only [Act.put, List.getElem_toArray, List.getElem_cons_succ, List.getElem_cons_zero, List.setIfInBounds_toArray, List.set_cons_zero, List.set_cons_succ]
                          refine wpAnyH_take (i := 1) (v := ?_) rfl (by kernel_rfl) (by kernel_rfl) (by kernel_rfl) (fun _ _ _ h => h) (Or.inl ⟨by kernel_rfl, ?_⟩) hHeld ?_
                          rotate_left
                          · intro wq hSw
                            go_simp
                            all_goals with_reducible rfl
                          try simp only [Act.put, List.getElem_toArray, List.getElem_cons_succ, List.getElem_cons_zero, List.setIfInBounds_toArray, List.set_cons_zero, List.set_cons_succ]
                          refine wpAnyH_take (i := 2) (v := ?_) rfl (by kernel_rfl) (by kernel_rfl) (by kernel_rfl) (fun _ _ _ h => h) (Or.inl ⟨by kernel_rfl, ?_⟩) hHeld ?_
                          rotate_left
                          · intro wq hSw
                            have q0 := hSw
                            go_simp
                            all_goals with_reducible rfl
                          try simp only [Act.put, List.getElem_toArray, List.getElem_cons_succ, List.getElem_cons_zero, List.setIfInBounds_toArray, List.set_cons_zero, List.set_cons_succ]
                          refine wpAnyH_take (i := 4) (v := ?_) rfl (by kernel_rfl) (by kernel_rfl) (by kernel_rfl) (fun _ _ _ h => h) (Or.inl ⟨by kernel_rfl, ?_⟩) hHeld ?_
                          rotate_left
                          · intro wq hSw
                            go_simp
                            all_goals with_reducible rfl
                          try simp only [Act.put, List.getElem_toArray, List.getElem_cons_succ, List.getElem_cons_zero, List.setIfInBounds_toArray, List.set_cons_zero, List.set_cons_succ]
                          refine wpAnyH_take (i := 5) (v := ?_) rfl (by kernel_rfl) (by kernel_rfl) (by kernel_rfl) (fun _ _ _ h => h) (Or.inl ⟨by kernel_rfl, ?_⟩) hHeld ?_
                          rotate_left
                          · intro wq hSw
                            go_simp
                            all_goals with_reducible rfl
                          try simp only [Act.put, List.getElem_toArray, List.getElem_cons_succ, List.getElem_cons_zero, List.setIfInBounds_toArray, List.set_cons_zero, List.set_cons_succ]
                          refine wpAnyH_take (i := 6) (v := ?_) rfl (by kernel_rfl) (by kernel_rfl) (by kernel_rfl) (fun _ _ _ h => h) (Or.inl ⟨by kernel_rfl, ?_⟩) hHeld ?_
                          rotate_left
                          · intro wq hSw
                            have q0 := hSw
                            go_simp
                            all_goals with_reducible rfl
                          try simp only [Act.put, List.getElem_toArray, List.getElem_cons_succ, List.getElem_cons_zero, List.setIfInBounds_toArray, List.set_cons_zero, List.set_cons_succ]
                          refine wpAnyH_ready (rs := [3]) (by kernel_rfl) (by simp) ?_
                          refine AllReadyH.cons rfl (fun K hK => ?_) AllReadyH.nil
                          go_simp
                          refine HT.out.mono ?_
                          rintro e w4 ⟨rfl, s4, t4⟩
                          have HB4 := Lib.hid (HB3d.out.sinkL s4 t4)
                          have hb4 := (t4.block gs HOB3d.out.lt HOB3d.out.k.1).trans HOB3d.out.b
                          have HOB4 := Lib.hid hb4
                          refine hK.out _ _ (cell_of_row _ _ _ _ _ _ hb4) (fun hHeld => ?_)
                          clear hK K s4 t4 hb4
                          try simp only [Act.put, List.getElem_toArray, List.getElem_cons_succ, List.getElem_cons_zero, List.setIfInBounds_toArray, List.set_cons_zero, List.set_cons_succ]
                          refine wpAnyH_ready (rs := [7]) (by kernel_rfl) (by simp) ?_
                          refine AllReadyH.cons rfl (fun K hK => ?_) AllReadyH.nil
                          go_simp
                          refine (HT2.out w4 HB4.out.d).mono ?_
                          rintro e w5 ⟨rfl, s5, t5⟩
                          have HB5 := Lib.hid (HB4.out.sinkD s5 t5)
                          have hb5 := (t5.block gs (Array.getElem?_eq_some_iff.1 HOB4.out).1 HOB3d.out.k.2).trans HOB4.out
                          refine hK.out _ _ (cell_of_row _ _ _ _ _ _ hb5) (fun hHeld => ?_)
                          clear hK K s5 t5 hb5
                          try simp only [Act.put, List.getElem_toArray, List.getElem_cons_succ, List.getElem_cons_zero, List.setIfInBounds_toArray, List.set_cons_zero, List.set_cons_succ]
                          refine wpAnyH_take (i := 8) (v := ?_) rfl (by kernel_rfl) (by kernel_rfl) (by kernel_rfl) (fun _ _ _ h => h) (Or.inl ⟨by kernel_rfl, ?_⟩) hHeld ?_
                          rotate_left
                          · intro wq hSw
                            go_simp
                            all_goals with_reducible rfl
                          try simp only [Act.put, List.getElem_toArray, List.getElem_cons_succ, List.getElem_cons_zero, List.setIfInBounds_toArray, List.set_cons_zero, List.set_cons_succ]
                          refine wpAnyH_done (by kernel_rfl) ?_ _
                          refine NoPanic.normal ?_
                          clear hHeld HT HT2 HB3d HOB3d HB4 HOB4 d1
                          go_wp2_with fail
                          go_meet
                          case rel => exact ⟨_, _, _, _, _, _, _, _, HB5.out⟩
                      · have y2 : (what == 2) = false := beq_eq_false_iff_ne.2 x2
                        have z2 : decide (what = 2) = false := decide_eq_false x2
                        clear x2
                        by_cases x3 : what = 3
                        · have y3 : (what == 3) = true := beq_iff_eq.2 x3
                          have z3 : decide (what = 3) = true := decide_eq_true x3
                          clear x3
                          as_aux_lemma =>
                            have d1 : w3.cell? ⟨gs, 1, none⟩ = some (.int .u64 (gen : Int)) := cell_of_row _ _ _ _ _ _ HOB3.out.b
                            have HT := Lib.hid (rl_move_all HB3.out.R.y gen)
                            clear d0
                            go_wp2_with fail
                            refine HT.out.mono ?_
                            rintro e w4 ⟨rfl, F4, r4, f4, t4⟩
                            have HB4 := Lib.hid (HB3.out.left r4 f4 t4)
                            have HOB4 := Lib.hid (HOB3.out.left f4 t4)
                            have q1 : w4.cell? ⟨gs, 1, none⟩ = some (.int .u64 (gen : Int)) := cell_of_row _ _ _ _ _ _ HOB4.out.b
                            clear d1 r4 f4 t4 HT HB3 HOB3 HA3 HP3
                            go_wp2_with fail
                            refine (ymove_all HB4.out.R.z gen).mono ?_
                            rintro e w5 ⟨rfl, F5, y5⟩
                            have HB5 := Lib.hid (HB4.out.right y5)
                            clear q1 y5 HB4 HOB4
                            go_wp2_with fail
                            go_meet
                            case rel => exact ⟨_, _, _, _, _, _, _, _, HB5.out⟩
                        · have y3 : (what == 3) = false := beq_eq_false_iff_ne.2 x3
                          have z3 : decide (what = 3) = false := decide_eq_false x3
                          clear x3
                          as_aux_lemma =>
                            clear HOB3 HA3 HP3
                            go_wp2_with fail
                            go_meet
                            case rel => exact ⟨_, _, _, _, _, _, _, _, HB3.out⟩
                case rest =>
                obtain ⟨b2, L2, F2, F2', got2, of2, kn2, br2, hB⟩ := hcut
                obtain ⟨w6, rfl⟩ : ∃ v, v = wc := ⟨_, rfl⟩
                have HB6 := Lib.hid hB
                clear hB HB3 HOB3 HA3 HP3 d0
                as_aux_lemma =>
                  go_wp2_with fail
                  refine (lknown_any HB6.out.l).mono ?_
                  rintro e w7' ⟨rfl, m, rfl⟩
                  have HB7x := Lib.hid (HB6.out.later ((Keep.refl w6).drewN m))
                  obtain ⟨w7, hw7⟩ : ∃ v, w6.drewN m = v := ⟨_, rfl⟩
                  rw [hw7] at HB7x ⊢
                  have HB7 := Lib.hid HB7x.out
                  clear hw7 HB7x HB6
                  have HL := Lib.hid HB7.out.l
                  have HDD := Lib.hid HB7.out.d
                  have HKE := Lib.hid HB7.out.R.keep
                  have u2 := HDD.out.c2
                  have u3 := HDD.out.c3
                  have u4 := HDD.out.c4
                  have u5 := HDD.out.c5
                  have v1 : ((got2 : Int) != (got2 : Int)) = false := by simp
                  have v2 : ((of2 : Int) != (of2 : Int)) = false := by simp
                  have v3 : (kn2 != kn2) = false := by simp
                  have v4 : ((kn2 && decide (of2 = got2)) != (kn2 && decide (of2 = got2))) = false := by simp
                  have v5 : (br2 != br2) = false := by simp
                  have v1' : ((got2 : Int) == (got2 : Int)) = true := by simp
                  have v2' : ((of2 : Int) == (of2 : Int)) = true := by simp
                  go_wp2_with fail
                  go_quiet (first | (go_at_call 20; exact quiet_of_eq (ldelivered_any (HL.out.drewN _))) | (go_at_call 21; exact quiet_drewK (ldone_any (HL.out.drewN _))) | (go_at_call 22; exact quiet_drewK (skdone_any (refk_drewN HDD.out _))) | (go_at_call 23; exact quiet_of_eq (lbroken_any (HL.out.drewN _))))
                  clear HL HDD HKE u2 u3 u4 u5 v1 v2 v3 v4 v5 v1' v2'
                  go_wp2_with fail
                  go_roundw
                  case rel => exact ⟨i + 1, b2, L2, F2, F2', got2, of2, kn2, br2, by omega, HI60.out, by first | rfl | simp, HB7.out.later ((Keep.refl w7).drewN _)⟩
                  case measure => (simp only [intOf]; omega)
          · have f1' : decide ((i : Int) < (n : Int)) = false := decide_eq_false (by omega)
            have f1'' : ¬ (i : Int) < (n : Int) := by omega
            have HKE := Lib.hid HB.out.R.keep
            clear HB
            as_aux_lemma =>
              go_wp2_with fail
              go_ret
              exact ⟨rfl, HKE.out⟩
    · have HN := Lib.hid (lsnew_in g1 s1 N hm.1 hm.2 w3)
      have HD := Lib.hid (fun w => sknew_in g1 s1 N hm.1 hm.2 w)
      have HR := Lib.hid (fun w => relnew_out g1 s1 K (by omega) w)
      have HZ := Lib.hid (fun w => rynew_out g1 s1 K hk w)
      clear hm hk
      as_aux_lemma =>
        go_wp2_with fail
        refine HN.out.mono ?_
        rintro e w4 ⟨rfl, sl, k4⟩
        have HB4 := Lib.hid (HB3.out.later k4)
        have HL4 := Lib.hid sl
        obtain ⟨q, hq⟩ : ∃ v, w3.heap.size = v := ⟨_, rfl⟩
        simp only [hq] at HL4 ⊢
        have y0 := HB4.out.c0
        have y1 := HB4.out.c1
        have y3 := HB4.out.c3
        clear sl k4 HN HB3 hq
        go_wp2_with fail
        refine (HD.out w4).mono ?_
        rintro e w5 ⟨rfl, -, k5⟩
        have HB5 := Lib.hid (HB4.out.later k5)
        have HL5 := Lib.hid (HL4.out.keep k5)
        have y0 := HB5.out.c0
        have y1 := HB5.out.c1
        have y2 := HB5.out.c2
        obtain ⟨r, hr⟩ : ∃ v, w4.heap.size = v := ⟨_, rfl⟩
        simp only [hr]
        clear y3 k5 HD HB4 HL4 hr
        go_wp2_with fail
        refine (HR.out w5).mono ?_
        rintro e w6 ⟨rfl, k6⟩
        have HB6 := Lib.hid (HB5.out.later k6)
        have HL6 := Lib.hid (HL5.out.keep k6)
        have y0 := HB6.out.c0
        have y1 := HB6.out.c1
        have y2 := HB6.out.c2
        clear k6 HR HB5 HL5
        go_wp2_with fail
        refine (HZ.out w6).mono ?_
        rintro e w7 ⟨rfl, k7⟩
        have HK7 := Lib.hid (HB6.out.k.trans k7)
        have HL7 := Lib.hid (HL6.out.keep k7)
        clear k7 HZ HB6 HL6 y0 y1 y2
        go_wp2_with fail
        refine (krel_nil HL7.out).mono ?_
        rintro e w8 ⟨rfl, k8⟩
        have HK8 := Lib.hid (HK7.out.trans k8)
        clear k8 HK7 HL7
        go_wp2_with fail
        go_ret
        exact ⟨rfl, HK8.out⟩
  · have HN := Lib.hid (lsnew_out g1 s1 N (by
      by_cases e : MayG g1 s1
      · exact Or.inr (Nat.lt_of_not_le fun e2 => hm ⟨e, e2⟩)
      · exact Or.inl e) w3)
    have HD := Lib.hid (sknew_out g1 s1 N (by
      by_cases e : MayG g1 s1
      · exact Or.inr (Nat.lt_of_not_le fun e2 => hm ⟨e, e2⟩)
      · exact Or.inl e) hN w3)
    clear hm
    as_aux_lemma =>
      go_wp2_with fail
      refine HN.out.mono ?_
      rintro e w4 ⟨rfl, hw⟩
      obtain rfl : w3 = w4 := hw.symm
      go_wp2_with fail
      refine HD.out.mono ?_
      rintro e w4 ⟨rfl, hw⟩
      obtain rfl : w3 = w4 := hw.symm
      have y2 := HB3.out.c2
      clear y3 HN HD
      by_cases hk : 1 ≤ g1 ∧ g1 ≤ 255 ∧ 1 ≤ s1 ∧ s1 ≤ 65535 ∧ 1 ≤ K ∧ K ≤ 16
      · obtain ⟨g, rfl⟩ := Int.eq_ofNat_of_zero_le (show 0 ≤ g1 by omega)
        obtain ⟨s, rfl⟩ := Int.eq_ofNat_of_zero_le (show 0 ≤ s1 by omega)
        obtain ⟨k, rfl⟩ := Int.eq_ofNat_of_zero_le (show 0 ≤ K by omega)
        have HR := Lib.hid (fun w => relnew_in (g := g) (s := s) (k := k) (by omega) (by omega) (by omega) (by omega) (by omega) (by omega) w)
        have HZ := Lib.hid (fun w => rynew_in g s k (by omega) (by omega) (by omega) (by omega) (by omega) (by omega) w)
        clear hk
        go_wp2_with fail
        refine (HR.out w3).mono ?_
        rintro e w6 ⟨p, F, rfl, -, -, k6⟩
        have HB6 := Lib.hid (HB3.out.later k6)
        have y0 := HB6.out.c0
        have y1 := HB6.out.c1
        have y2 := HB6.out.c2
        clear k6 HR HB3
        go_wp2_with fail
        refine (HZ.out w6).mono ?_
        rintro e w7 ⟨z, F', rfl, -, -, k7⟩
        have HK7 := Lib.hid (HB6.out.k.trans k7)
        clear k7 HZ HB6 y0 y1 y2
        go_wp2_with fail
        refine (krel_none w7 _).mono ?_
        rintro e w8 ⟨rfl, k8⟩
        have HK8 := Lib.hid (HK7.out.trans k8)
        clear k8 HK7
        go_wp2_with fail
        go_ret
        exact ⟨rfl, HK8.out⟩
      · have HR := Lib.hid (fun w => relnew_out g1 s1 K (by omega) w)
        have HZ := Lib.hid (fun w => rynew_out g1 s1 K hk w)
        clear hk
        go_wp2_with fail
        refine (HR.out w3).mono ?_
        rintro e w6 ⟨rfl, k6⟩
        have HB6 := Lib.hid (HB3.out.later k6)
        have y0 := HB6.out.c0
        have y1 := HB6.out.c1
        have y2 := HB6.out.c2
        clear k6 HR HB3
        go_wp2_with fail
        refine (HZ.out w6).mono ?_
        rintro e w7 ⟨rfl, k7⟩
        have HK7 := Lib.hid (HB6.out.k.trans k7)
        clear k7 HZ HB6 y0 y1 y2
        go_wp2_with fail
        refine (krel_none w7 _).mono ?_
        rintro e w8 ⟨rfl, k8⟩
        have HK8 := Lib.hid (HK7.out.trans k8)
        clear k8 HK7
        go_wp2_with fail
        go_ret
        exact ⟨rfl, HK8.out⟩
end Go.Proofs.YtgelalbmhllccaaGreat
