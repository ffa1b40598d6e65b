/- The walk of QueueOrder. -/
import Derived.Test.YthgplballiibnaaQawake
import Derived.Test.YthgplballiibnaaOpenB
import Derived.Deep.DeepCutAuto
import Derived.Deep.CutBlock
namespace Go.Proofs.Ythgplballiibnaa
open Go.RowKit
set_option linter.unusedVariables false
theorem run_min_int (a : Nat) (k c : Int) (m : Nat) (h : min (a : Int) k = (m : Int)) (w : World) : (Builtin.min_ #[3, 3] 3 #[.int .i64 (a : Int), .int .i64 k]).run Try.prog w = .ok (.int .i64 (m : Int)) w := by
  rw [run_min_int2]; congr 2; split <;> omega
/-- The queue, what went in, how much came out. -/
structure Ord (w wr : World) (F : Nat → Prop) (g pl : Nat) (A : Option Addr) (n c : Nat) (rs : List RowV) (out : Nat) : Prop where
  one : One w wr F g pl ((rowsXs rs).drop out)
  own : OwnRows wr w.heap.size 31 A n c rs
  rows : ∀ r ∈ rs, Own wr w.heap.size 5 r.A r.n r.c r.xs ∧ ∀ b, (Value.slice r.A r.n r.c).ownBlock = some b → ¬ F b
  blk : ∀ b, (Value.slice A n c).ownBlock = some b → ¬ F b
  outle : out ≤ n
namespace Ord
variable {w wr w' : World} {F : Nat → Prop} {g pl n c out : Nat} {A : Option Addr} {rs : List RowV}
theorem len (h : Ord w wr F g pl A n c rs out) : rs.length = n := h.own.length
theorem left (h : Ord w wr F g pl A n c rs out) : ((rowsXs rs).drop out).length = n - out := by rw [List.length_drop, rowsXs, List.length_map, h.len]
/-- The queue has turned. -/
theorem step {F' : Nat → Prop} {out' : Nat} (h : Ord w wr F g pl A n c rs out) (q' : QueR w' F' g pl ((rowsXs rs).drop out')) (f' : ∀ b, F' b → F b ∨ wr.heap.size ≤ b) (k' : Turned F wr w') (ho : out' ≤ n) : Ord w w' F' g pl A n c rs out' := by
  refine ⟨h.one.step q' f' k', h.own.turned k' h.blk, fun r hr => ⟨(h.rows r hr).1.turned k' (h.rows r hr).2, fun b hb e => ?_⟩, fun b hb e => ?_, ho⟩
  · rcases f' b e with e | e
    · exact (h.rows r hr).2 b hb e
    · have := ((h.rows r hr).1.1.lt b hb).2; omega
  · rcases f' b e with e | e
    · exact h.blk b hb e
    · have := (h.own.lt b hb).2; omega
end Ord
theorem addr_zero (g o : Nat) : (⟨g, 0, none⟩ : Addr).add o = ⟨g, o, none⟩ := by unfold Addr.add; split <;> simp_all
theorem Bytes.turned_low {w w' : World} {G : Nat → Prop} {B n : Nat} {A : Option Addr} {xs : List Nat} (h : Bytes w B A n xs) (k : Turned G w w') (hG : ∀ b, b < B → ¬ G b) : Bytes w' B A n xs := ⟨h.1, h.2.1, fun hp => by
  obtain ⟨b, off, e, hb, hc⟩ := h.2.2 hp
  exact ⟨b, off, e, hb, fun i hi => k.cell (hc i hi) (hG b hb)⟩⟩
set_option maxRecDepth 100000 in
set_option maxHeartbeats 8000000 in
theorem order_any (x n1 c1 n2 c2 : Nat) (A1 A2 : Option Addr) (l : List RowV) (w : World) (hx : x < 256) (h1 : RowsAt w w.heap.size A1 n1 l) (m1 : n1 ≤ 140737488351232) (h2 : BoolsAt w w.heap.size A2 n2) :
    Calls Try.prog 4 #[.int .u8 (x : Int), .slice A1 n1 c1, .slice A2 n2 c2] w fun e w' => e = .returned (.bool true) ∧ Keep w w' := by
  have H1 := Lib.hid h1
  have H2 := Lib.hid h2
  obtain ⟨y, hy⟩ : ∃ y, x % 64 = y := ⟨_, rfl⟩
  obtain ⟨pl, hpl⟩ : ∃ pl, 1 + y = pl := ⟨_, rfl⟩
  have f1 : (x : Int) % 64 = (y : Int) := by omega
  have f2 : 1 + (y : Int) = (pl : Int) := by omega
  have p1 : 1 ≤ pl := by omega
  have p2 : pl ≤ 64 := by omega
  clear h1 h2 hy hpl
  go_enter Try.func4, Try.ntmps4
  go_wp2_with fail
  refine (qnew_in pl p1 p2 _).mono ?_
  rintro e w1 ⟨g, rfl, F, q1, f1', k1⟩
  have O1 : Hid (One w w1 F g pl []) := ⟨q1, f1', k1⟩
  clear q1 f1' k1
  go_wp2_with fail
  refine (awake_any _).mono ?_
  rintro e w2 ⟨rfl, s2⟩
  have O2 : Hid (Ord w w2 F g pl none 0 0 [] 0) := ⟨O1.out.later s2, OwnRows.none_ _ _ _, fun r hr => by simp at hr, fun b hb => by simp [Value.ownBlock] at hb, Nat.le_refl _⟩
  clear s2
  go_wp2_with fail
  go_loopw [39, 10, 11] (fun i ii oo wr => ∃ (j : Nat) (F : Nat → Prop) (Ai : Option Addr) (ni ci : Nat) (rsI : List RowV) (o : Nat), j ≤ n1 ∧ j ≤ 300 ∧ i = .int .i64 j ∧ ii = .slice Ai ni ci ∧ oo = .int .i64 o ∧ ni ≤ j ∧ Ord w wr F g pl Ai ni ci rsI o) (fun i _ _ _ => n1 - (intOf i).toNat)
  case atStart => exact ⟨0, F, none, 0, 0, [], 0, by omega, by omega, rfl, rfl, rfl, Nat.le_refl _, O2.out⟩
  case round =>
    clear O2 O1
    obtain ⟨j, F, Ai, ni, ci, rsI, o, hj, hj3, rfl, rfl, rfl, hni, ho⟩ := hrel
    by_cases hlt : j < n1
    · obtain ⟨b, off, r, rfl, hb0, hr0, hc0, hv, hvn, hvc⟩ := (H1.out.keep (Nat.le_refl _) ho.one.keep).at_ hlt
      have e1 : (0 : Int) ≤ (j : Int) := Int.natCast_nonneg _
      have e2 : (j : Int) < (n1 : Int) := by omega
      have HO := Lib.hid ho
      by_cases h300 : j = 300
      · have b0 : ((j : Int) == 300) = true := beq_iff_eq.2 (by omega)
        clear ho h300 hv
        go_wp2_with fail
        go_loopw [11] (fun oo wz => ∃ (F : Nat → Prop) (o : Nat), oo = .int .i64 o ∧ Ord w wz F g pl Ai ni ci rsI o) (fun oo _ => ni - (intOf oo).toNat)
        case atStart => exact ⟨F, o, rfl, HO.out⟩
        case round =>
          clear HO
          obtain ⟨F, o, rfl, ho⟩ := hrel
          have hol := ho.outle
          by_cases hlt2 : o < ni
          · have hal : o < rsI.length := by rw [ho.len]; exact hlt2
            obtain ⟨ri, hri⟩ : ∃ ri, rsI[o] = ri := ⟨_, rfl⟩
            have hrm : ri ∈ rsI := hri ▸ List.getElem_mem hal
            have hd : (rowsXs rsI).drop o = ri.xs :: (rowsXs rsI).drop (o + 1) := by
              rw [List.drop_eq_getElem_cons (by rw [rowsXs, List.length_map]; exact hal)]
              simp [rowsXs, hri]
            have HO := Lib.hid ho
            have HD := Lib.hid hd
            have HRM := Lib.hid hrm
            have HRI := Lib.hid hri
            have e3 : (0 : Int) ≤ (o : Int) := Int.natCast_nonneg _
            have e4 : (o : Int) < (ni : Int) := by omega
            clear ho hd hrm hri hol
            go_wp2_with fail
            refine (qpop_any pl g F _ _ HO.out.one.q).mono ?_
            rw [HD.out]
            rintro e w6 ⟨r6, rfl, hr6, F6, q6, f6, l6, k6⟩
            have HO6 := Lib.hid (HO.out.step (out' := o + 1) q6 f6 k6 (by omega))
            have hb6 := l6.bytes (B := w6.heap.size) fun b hb => hb.2.2
            have HB6 := Lib.hid hb6
            have HR6 : Hid (r6.xs = ri.xs) := hr6
            obtain ⟨ga, rfl, hga, hgl⟩ := HO6.out.own.block (by omega)
            have hcell := World.ownsRow.cells HO6.out.own (g := ga) rfl o ri.val (by rw [List.getElem?_map, List.getElem?_eq_getElem hal, HRI.out]; rfl)
            have haa := addr_zero ga o
            rw [haa, RowV.val] at hcell
            clear q6 f6 l6 k6 hb6 hr6 haa
            go_wp2_with fail
            refine (equal_any _ _ r6.n ri.n _ _ _ _ _ _ _ HB6.out (HO6.out.rows ri HRM.out).1.bytes).mono ?_
            rw [decide_eq_true HR6.out]
            rintro e w7 ⟨rfl, rfl⟩
            go_wp2_with fail
            go_round
            case rel => exact ⟨F6, o + 1, by go_num, HO6.out⟩
            case measure => simp [intOf]; omega
          · obtain rfl : o = ni := by omega
            have hd : (rowsXs rsI).drop o = [] := List.drop_eq_nil_of_le (by rw [rowsXs, List.length_map, ho.len]; exact Nat.le_refl _)
            have HO := Lib.hid ho
            have HD := Lib.hid hd
            clear ho hd hol
            go_wp2_with fail
            refine (qpop_any pl g F _ _ HO.out.one.q).mono ?_
            rw [HD.out]
            rintro e w6 ⟨r6, rfl, hr6, F6, q6, f6, l6, k6⟩
            have HO6 := Lib.hid (HO.out.one.step q6 f6 k6)
            clear q6 f6 l6 k6 hr6
            go_wp2_with fail
            refine (qlen_any pl g F6 _ _ HO6.out.q).mono ?_
            rintro e w7 ⟨rfl, rfl⟩
            go_wp2_with fail
            go_ret
            exact ⟨rfl, HO6.out.keep⟩
      · have b0 : ((j : Int) == 300) = false := beq_eq_false_iff_ne.2 (by omega)
        obtain ⟨m, hm⟩ : ∃ m, min r.n 200 = m := ⟨_, rfl⟩
        have hj4 : j < 300 := by omega
        have hmin := run_min_int r.n 200 0 m (by omega)
        have d2 : (m : Int) ≤ (r.n : Int) := by omega
        have d3 : (0 : Int) ≤ (m : Int) := Int.natCast_nonneg _
        have d4 : (m : Int) ≤ (r.c : Int) := by omega
        have hm200 : m ≤ 200 := by omega
        have HV := Lib.hid (hv.cut (m := m) (by omega))
        have hleft := ho.left
        obtain ⟨k, hk⟩ : ∃ k, ni - o = k := ⟨_, rfl⟩
        have hol := ho.outle
        have d5 : (ni : Int) - (o : Int) = (k : Int) := by omega
        obtain ⟨fb, hfb⟩ : ∃ fb, decide (pl ≤ k) = fb := ⟨_, rfl⟩
        have hkp : k ≤ pl := by have := ho.one.q.short.1; omega
        have d6 : ((k : Int) == (pl : Int)) = fb := by
          rw [← hfb]
          by_cases e : pl ≤ k
          · rw [decide_eq_true e]; exact beq_iff_eq.2 (by omega)
          · rw [decide_eq_false e]; exact beq_eq_false_iff_ne.2 (by omega)
        have hlen := HV.out.length
        obtain ⟨er, her⟩ : ∃ er, pushErr pl ((rowsXs rsI).drop o) (r.xs.take m) = er := ⟨_, rfl⟩
        have her2 : er = if fb = true then 7 else 0 := by
          rw [← her, pushErr, if_neg (by omega), hleft, hk, ← hfb]
          by_cases e : pl ≤ k
          · rw [if_pos e, if_pos (decide_eq_true e)]
          · rw [if_neg e, if_neg (by rw [decide_eq_false e]; decide)]
        have d7 : (er == 7) = fb := by rw [her2]; cases fb <;> rfl
        have d8 : (er == 0) = !fb := by rw [her2]; cases fb <;> rfl
        have d9 : ((!fb) == fb) = false := by cases fb <;> rfl
        have d10 : (fb != fb) = false := by cases fb <;> rfl
        have HER := Lib.hid her
        have HE2 := Lib.hid her2
        have HKK := Lib.hid (And.intro hk (And.intro hleft (And.intro hkp hol)))
        clear ho h300 hv hm hleft hk hol hfb hkp hlen her her2
        go_wp2_with fail
        clear hmin
        refine (qpush_any _ m r.c pl g r.A F (r.xs.take m) _ _ HO.out.one.q (HV.out) (by have := HO.out.one.keep.size; omega)).mono ?_
        rw [HER.out]
        rintro e w5 ⟨rfl, F5, q5, f5, k5⟩
        have HQ5 := Lib.hid (And.intro q5 (And.intro f5 k5))
        clear q5 f5 k5
        go_upto_if 71 with fail
        go_cut [10] (fun ii wx => ∃ (F : Nat → Prop) (Ai : Option Addr) (ni ci : Nat) (rsI : List RowV), ii = .slice Ai ni ci ∧ ni ≤ j + 1 ∧ Ord w wx F g pl Ai ni ci rsI o)
        case first =>
          cases fb with
          | true =>
            have HP : Hid (pushL pl ((rowsXs rsI).drop o) (r.xs.take m) = (rowsXs rsI).drop o) := by show _ = _; rw [pushL, HER.out, HE2.out]; rfl
            have HO5 := Lib.hid (HO.out.step (out' := o) (HP.out ▸ HQ5.out.1) HQ5.out.2.1 HQ5.out.2.2 HKK.out.2.2.2)
            go_wp2_with fail
            go_meet
            case rel => exact ⟨F5, Ai, ni, ci, rsI, rfl, by omega, HO5.out⟩
          | false =>
            have HP : Hid (pushL pl ((rowsXs rsI).drop o) (r.xs.take m) = (rowsXs rsI).drop o ++ [r.xs.take m]) := by show _ = _; rw [pushL, HER.out, HE2.out]; rfl
            have k5 : Keep w w5 := HQ5.out.2.2.keep HO.out.one.keep HO.out.one.low
            have HW5 := Lib.hid (HO.out.own.turned HQ5.out.2.2 HO.out.blk)
            have HV5 := Lib.hid (HV.out.turned_low HQ5.out.2.2 fun b hb e => by have := HO.out.one.low b e; omega)
            have K5 := Lib.hid k5
            clear k5
            go_wp2_with (at_builtin; refine wpList_append_bytes rfl _ _ 31 rfl Try.underlying31 info5 rfl (Own.lit w5 5 0 [] #[] rfl rfl (by omega) (fun x h => by simp at h)) rfl ((HV5.out.keep K5.out.size ((Keep.refl _).alloc _ _))) (by omega) (by simp) ?_)
            intro A6 c6 w6 h6 hgr6 _
            have h6 : Own w6 w5.heap.size 5 A6 m c6 (r.xs.take m) := by simpa using h6
            have k6 : Keep w5 w6 := Keep.grown ((Keep.refl w5).alloc #[] 5) hgr6 (fun b hb => by simp [Value.ownBlock] at hb; omega)
            have HO6 := Lib.hid h6
            have K6 := Lib.hid k6
            have HW6 := Lib.hid ((HW5.out.keep k6).alloc (.cells #[.slice A6 m c6] 31))
            have hz : w.heap.size ≤ w6.heap.size := Nat.le_trans K5.out.size k6.size
            clear h6 hgr6 k6
            go_wp2_with (at_builtin; refine wpList_append_row rfl _ _ 40 rfl ⟨A6, m, c6, r.xs.take m⟩ Try.underlying40 infoRow rfl HW6.out rfl (by rw [World.cell?_alloc_new]; rfl) (by omega) (by simp; omega) ?_)
            intro A7 c7 w7 h7 hgr7 hb7
            have ka : Keep w6 (w6.alloc (.cells #[.slice A6 m c6] 31)) := (Keep.refl w6).alloc _ _
            have hT : Turned (fun b => (Value.slice Ai ni ci).ownBlock = some b) w5 w7 := ((Turned.of_keep K6.out).then_keep ka).trans (Turned.of_grown (F := fun b => (Value.slice Ai ni ci).ownBlock = some b) hgr7 fun i e => e) fun i e => Or.inl e
            have hT6 : Turned (fun b => (Value.slice Ai ni ci).ownBlock = some b) w6 w7 := ((Turned.of_keep ka).trans (Turned.of_grown (F := fun b => (Value.slice Ai ni ci).ownBlock = some b) hgr7 fun i e => e) fun i e => Or.inl e)
            have hAF : ∀ b, F5 b → ¬ (Value.slice Ai ni ci).ownBlock = some b := fun b hb e => by
              rcases HQ5.out.2.1 b hb with h | h
              · exact HO.out.blk b e h
              · have := (HO.out.own.lt b e).2; omega
            have hF5lt : ∀ b, F5 b → b < w5.heap.size := HQ5.out.1.lt
            have hO7 : Ord w w7 F5 g pl A7 (ni + 1) c7 (rsI ++ [⟨A6, m, c6, r.xs.take m⟩]) o := by
              refine ⟨⟨?_, ?_, ?_⟩, h7, fun r' hr' => ?_, fun b hb e => ?_, by have := HO.out.outle; omega⟩
              · have e : (rowsXs (rsI ++ [⟨A6, m, c6, r.xs.take m⟩])).drop o = pushL pl ((rowsXs rsI).drop o) (r.xs.take m) := by
                  rw [HP.out, rowsXs, List.map_append, List.drop_append_of_le_length (by rw [List.length_map, HO.out.len]; exact HO.out.outle)]; rfl
                rw [e]
                exact HQ5.out.1.turned hT hAF
              · exact (HO.out.one.step HQ5.out.1 HQ5.out.2.1 HQ5.out.2.2).low
              · exact hT.keep K5.out fun b e => HO.out.own.rowLe b e
              · rw [List.mem_append, List.mem_singleton] at hr'
                rcases hr' with hr' | rfl
                · have z := HO.out.rows r' hr'
                  refine ⟨(z.1.turned HQ5.out.2.2 z.2).turned hT fun b hb e => ?_, fun b hb e => ?_⟩
                  · rcases blocks_apart z.1 HO.out.own (by decide) with h | h
                    · rw [h] at hb; cases hb
                    · exact h (hb.trans e.symm)
                  · rcases HQ5.out.2.1 b e with h | h
                    · exact z.2 b hb h
                    · have := (z.1.1.lt b hb).2; omega
                · refine ⟨(HO6.out.turned hT6 fun b hb e => ?_).lower K5.out.size, fun b hb e => ?_⟩
                  · have := (HO6.out.1.lt b hb).1
                    have := (HW5.out.lt b e).2
                    omega
                  · have := (HO6.out.1.lt b hb).1
                    have := hF5lt b e
                    omega
              · rcases hb7 with h | h
                · rw [h] at hb; exact hAF b e hb
                · rw [h] at hb
                  injection hb with hb
                  have := hF5lt b e
                  have := K6.out.size
                  omega
            have HO7 := Lib.hid hO7
            clear h7 hgr7 hb7 ka hT hT6 hAF hF5lt hO7
            go_wp2_with fail
            go_meet
            case rel => exact ⟨F5, A7, ni + 1, c7, _, rfl, by omega, HO7.out⟩
        case rest =>
          obtain ⟨F6, A6, n6, c6, rs6, rfl, h61, ho6⟩ := hcut
          have HO6 := Lib.hid ho6
          clear ho6 HO HV HQ5 HER HE2 HKK d2 d3 d4 d5 d6 d7 d8 d9 d10 hc0
          go_upto_region 18 with fail
          go_cut [87] (fun s wx => ∃ p : Bool, s = .bool p ∧ wx = wc)
          case first =>
            by_cases hj2 : j < n2
            · have e5 : (j : Int) < (n2 : Int) := by omega
              obtain ⟨b2, off2, rfl, hb2, hcs⟩ := H2.out (by omega)
              obtain ⟨p, hp⟩ := hcs j hj2
              have hp2 := (HO6.out.one.keep.cell (p := ⟨b2, off2 + j, none⟩) hb2).trans hp
              clear hcs hp
              go_wp2_with fail
              go_meet
              case rel => exact ⟨p, rfl, rfl⟩
            · have e5 : ¬ (j : Int) < (n2 : Int) := by omega
              go_wp2_with fail
              go_meet
              case rel => exact ⟨false, rfl, rfl⟩
          case rest =>
            obtain ⟨p, rfl, rfl⟩ := hcut
            go_upto_if 87 with fail
            go_cut [11] (fun oo wx => ∃ (F : Nat → Prop) (o : Nat), oo = .int .i64 o ∧ Ord w wx F g pl A6 n6 c6 rs6 o)
            case first =>
              cases p with
              | false =>
                go_wp2_with fail
                go_meet
                case rel => exact ⟨F6, o, rfl, HO6.out⟩
              | true =>
                have hol := HO6.out.outle
                by_cases hlt2 : o < n6
                · have hal : o < rs6.length := by rw [HO6.out.len]; exact hlt2
                  obtain ⟨ri, hri⟩ : ∃ ri, rs6[o] = ri := ⟨_, rfl⟩
                  have hrm : ri ∈ rs6 := hri ▸ List.getElem_mem hal
                  have hd : (rowsXs rs6).drop o = ri.xs :: (rowsXs rs6).drop (o + 1) := by
                    rw [List.drop_eq_getElem_cons (by rw [rowsXs, List.length_map]; exact hal)]
                    simp [rowsXs, hri]
                  have HD := Lib.hid hd
                  have HRM := Lib.hid hrm
                  have HRI := Lib.hid hri
                  have e3 : (0 : Int) ≤ (o : Int) := Int.natCast_nonneg _
                  have e4 : (o : Int) < (n6 : Int) := by omega
                  have e4' : decide ((o : Int) < (n6 : Int)) = true := decide_eq_true e4
                  clear hd hrm hri hol
                  go_wp2_with fail
                  refine (qpop_any pl g F6 _ _ HO6.out.one.q).mono ?_
                  rw [HD.out]
                  rintro e w6 ⟨r6, rfl, hr6, F7, q6, f6, l6, k6⟩
                  have HO7 := Lib.hid (HO6.out.step (out' := o + 1) q6 f6 k6 (by omega))
                  have hb6 := l6.bytes (B := w6.heap.size) fun b hb => hb.2.2
                  have HB6 := Lib.hid hb6
                  have HR6 : Hid (r6.xs = ri.xs) := hr6
                  obtain ⟨ga, rfl, hga, hgl⟩ := HO7.out.own.block (by omega)
                  have hcell := World.ownsRow.cells HO7.out.own (g := ga) rfl o ri.val (by rw [List.getElem?_map, List.getElem?_eq_getElem hal, HRI.out]; rfl)
                  have haa := addr_zero ga o
                  rw [haa, RowV.val] at hcell
                  clear q6 f6 l6 k6 hb6 hr6 haa
                  go_wp2_with fail
                  refine (equal_any _ _ r6.n ri.n _ _ _ _ _ _ _ HB6.out (HO7.out.rows ri HRM.out).1.bytes).mono ?_
                  rw [decide_eq_true HR6.out]
                  rintro e w7 ⟨rfl, rfl⟩
                  go_wp2_with fail
                  go_meet
                  case rel => exact ⟨F7, o + 1, by go_num, HO7.out⟩
                · obtain rfl : o = n6 := by omega
                  have hd : (rowsXs rs6).drop o = [] := List.drop_eq_nil_of_le (by rw [rowsXs, List.length_map, HO6.out.len]; exact Nat.le_refl _)
                  have HD := Lib.hid hd
                  clear hd hol
                  go_wp2_with fail
                  refine (qpop_any pl g F6 _ _ HO6.out.one.q).mono ?_
                  rw [HD.out]
                  rintro e w6 ⟨r6, rfl, hr6, F7, q6, f6, l6, k6⟩
                  have HO7 := Lib.hid (HO6.out.step (out' := o) (by rw [HD.out]; exact q6) f6 k6 (by omega))
                  clear q6 f6 l6 k6 hr6
                  go_wp2_with fail
                  go_meet
                  case rel => exact ⟨F7, o, rfl, HO7.out⟩
            case rest =>
              obtain ⟨F7, o, rfl, ho7⟩ := hcut
              have HO7 := Lib.hid ho7
              have hl := ho7.left
              have hol := ho7.outle
              have hs := ho7.one.q.short.1
              obtain ⟨k, hk⟩ : ∃ k, n6 - o = k := ⟨_, rfl⟩
              rw [hk] at hl
              rw [hl] at hs
              have HL := Lib.hid hl
              have d5 : (n6 : Int) - (o : Int) = (k : Int) := by omega
              have d6 : (k : Int) + ((pl : Int) - (k : Int)) = (pl : Int) := by omega
              have z0 : ((k : Int) != (k : Int)) = false := by simp
              have z1 : ((pl : Int) != (pl : Int)) = false := by simp
              clear ho7 HO6 hl hk
              go_wp2_with fail
              refine (qlen_any pl g F7 _ _ HO7.out.one.q).mono ?_
              rw [HL.out]
              rintro e w8 ⟨rfl, rfl⟩
              go_wp2_with fail
              refine (qlen_any pl g F7 _ _ HO7.out.one.q).mono ?_
              rw [HL.out]
              rintro e w8 ⟨rfl, rfl⟩
              go_wp2_with fail
              refine (qfree_any pl g F7 _ _ HO7.out.one.q).mono ?_
              rw [HL.out]
              rintro e w8 ⟨rfl, kd, rfl⟩
              have HO8 := Lib.hid (HO7.out.step (out' := o) (HO7.out.one.q.keep ((Keep.refl _).drewN kd)) (fun b hb => Or.inl hb) (Turned.of_keep ((Keep.refl _).drewN kd)) HO7.out.outle)
              go_wp2_with fail
              go_roundw
              case rel => exact ⟨j + 1, F7, A6, n6, c6, rs6, o, by omega, by omega, by go_num, rfl, rfl, by omega, HO8.out⟩
              case measure => simp [intOf]; omega
    · obtain rfl : n1 = j := by omega
      have HO := Lib.hid ho
      clear ho
      go_wp2_with fail
      go_loopw [11] (fun oo wz => ∃ (F : Nat → Prop) (o : Nat), oo = .int .i64 o ∧ Ord w wz F g pl Ai ni ci rsI o) (fun oo _ => ni - (intOf oo).toNat)
      case atStart => exact ⟨F, o, rfl, HO.out⟩
      case round =>
        clear HO
        obtain ⟨F, o, rfl, ho⟩ := hrel
        have hol := ho.outle
        by_cases hlt2 : o < ni
        · have hal : o < rsI.length := by rw [ho.len]; exact hlt2
          obtain ⟨ri, hri⟩ : ∃ ri, rsI[o] = ri := ⟨_, rfl⟩
          have hrm : ri ∈ rsI := hri ▸ List.getElem_mem hal
          have hd : (rowsXs rsI).drop o = ri.xs :: (rowsXs rsI).drop (o + 1) := by
            rw [List.drop_eq_getElem_cons (by rw [rowsXs, List.length_map]; exact hal)]
            simp [rowsXs, hri]
          have HO := Lib.hid ho
          have HD := Lib.hid hd
          have HRM := Lib.hid hrm
          have HRI := Lib.hid hri
          have e3 : (0 : Int) ≤ (o : Int) := Int.natCast_nonneg _
          have e4 : (o : Int) < (ni : Int) := by omega
          clear ho hd hrm hri hol
          go_wp2_with fail
          refine (qpop_any pl g F _ _ HO.out.one.q).mono ?_
          rw [HD.out]
          rintro e w6 ⟨r6, rfl, hr6, F6, q6, f6, l6, k6⟩
          have HO6 := Lib.hid (HO.out.step (out' := o + 1) q6 f6 k6 (by omega))
          have hb6 := l6.bytes (B := w6.heap.size) fun b hb => hb.2.2
          have HB6 := Lib.hid hb6
          have HR6 : Hid (r6.xs = ri.xs) := hr6
          obtain ⟨ga, rfl, hga, hgl⟩ := HO6.out.own.block (by omega)
          have hcell := World.ownsRow.cells HO6.out.own (g := ga) rfl o ri.val (by rw [List.getElem?_map, List.getElem?_eq_getElem hal, HRI.out]; rfl)
          have haa := addr_zero ga o
          rw [haa, RowV.val] at hcell
          clear q6 f6 l6 k6 hb6 hr6 haa
          go_wp2_with fail
          refine (equal_any _ _ r6.n ri.n _ _ _ _ _ _ _ HB6.out (HO6.out.rows ri HRM.out).1.bytes).mono ?_
          rw [decide_eq_true HR6.out]
          rintro e w7 ⟨rfl, rfl⟩
          go_wp2_with fail
          go_round
          case rel => exact ⟨F6, o + 1, by go_num, HO6.out⟩
          case measure => simp [intOf]; omega
        · obtain rfl : o = ni := by omega
          have hd : (rowsXs rsI).drop o = [] := List.drop_eq_nil_of_le (by rw [rowsXs, List.length_map, ho.len]; exact Nat.le_refl _)
          have HO := Lib.hid ho
          have HD := Lib.hid hd
          clear ho hd hol
          go_wp2_with fail
          refine (qpop_any pl g F _ _ HO.out.one.q).mono ?_
          rw [HD.out]
          rintro e w6 ⟨r6, rfl, hr6, F6, q6, f6, l6, k6⟩
          have HO6 := Lib.hid (HO.out.one.step q6 f6 k6)
          clear q6 f6 l6 k6 hr6
          go_wp2_with fail
          refine (qlen_any pl g F6 _ _ HO6.out.q).mono ?_
          rintro e w7 ⟨rfl, rfl⟩
          go_wp2_with fail
          go_ret
          exact ⟨rfl, HO6.out.keep⟩
end Go.Proofs.Ythgplballiibnaa
