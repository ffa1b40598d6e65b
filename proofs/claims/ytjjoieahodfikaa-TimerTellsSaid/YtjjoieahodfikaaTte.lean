/- TimerTells. -/
import Derived.Test.YtjjoieahodfikaaQae
import Derived.BigQuiet
namespace Go.Proofs.Ytjjoieahodfikaa
open Go.RowKit Go.Maps Tmr
set_option linter.unusedVariables false
set_option linter.unusedSimpArgs false
set_option maxRecDepth 100000
/-- Timers and times of one's own. -/
structure Tel (W w : World) (g mb clk : Nat) (l : List Alarm) (ba m : Nat) (f : Nat → Nat) : Prop where
  t : TmL w W.heap.size g mb clk l
  k : Keep W w
  us : AtU w ba m f
  hb : (g < ba ∧ mb < ba) ∧ ba < w.heap.size ∧ W.heap.size ≤ ba
namespace Tel
variable {W w w' : World} {g mb clk ba m : Nat} {l : List Alarm} {f : Nat → Nat}
theorem turned {F : Nat → Prop} (T : Tel W w g mb clk l ba m f) (t : Turned F w w') (h1 : ¬ F g) (h2 : ¬ F mb) (h3 : ¬ F ba) (h4 : ∀ i, F i → W.heap.size ≤ i) : Tel W w' g mb clk l ba m f :=
  ⟨T.t.turned t h1 h2, t.keep T.k h4, T.us.turned T.hb.2.1 t h3, by have := T.hb; have := t.size; omega⟩
theorem later (T : Tel W w g mb clk l ba m f) (k : Keep w w') : Tel W w' g mb clk l ba m f := T.turned (Turned.of_keep (F := fun _ => False) k) (fun e => e) (fun e => e) (fun e => e) (fun _ e => e.elim)
theorem one (T : Tel W w g mb clk l ba m f) : One W w g mb clk l := ⟨T.t, T.k⟩
theorem step {clk2 : Nat} {l2 : List Alarm} (T : Tel W w g mb clk l ba m f) (o : One W w' g mb clk2 l2) (t : Turned (FpT g mb) w w') : Tel W w' g mb clk2 l2 ba m f :=
  ⟨o.t, o.k, T.us.turned T.hb.2.1 t (fun e => by have := T.hb; rcases e with e | e <;> omega), by have := T.hb; have := t.size; omega⟩
theorem stored (T : Tel W w g mb clk l ba m f) {k : Nat} (hk : k < m) (v : Nat) : Tel W (w.setCell ⟨ba, k, none⟩ (.int .u64 (v : Int))) g mb clk l ba m (fun j => if j = k then v else f j) := by
  have t : Turned (fun b => b = ba) w (w.setCell ⟨ba, k, none⟩ (.int .u64 (v : Int))) := Turned.set (F := fun b => b = ba) w ⟨ba, k, none⟩ _ rfl
  have := T.hb
  exact ⟨T.t.turned t (by omega) (by omega), t.keep T.k (fun i e => by omega), T.us.stored hk v, by have := t.size; omega⟩
theorem congr {f' : Nat → Nat} (T : Tel W w g mb clk l ba m f) (e : ∀ k, k < m → f' k = f k) : Tel W w g mb clk l ba m f' := ⟨T.t, T.k, T.us.congr e, T.hb⟩
end Tel
theorem run_min20 (a m : Nat) (h : min a 20 = m) (w : World) : (Builtin.min_ #[3, 3] 3 #[.int .i64 (a : Int), .int .i64 20]).run Try.prog w = .ok (.int .i64 (m : Int)) w := by
  rw [run_min_int2]; congr 2; split <;> omega
theorem elemH : Try.prog.elem 51 = 54 := by kernel_rfl
theorem infoH : (Try.prog.info? (Try.prog.elem 51)).map (fun i => (i.zero, i.size, i.bytes)) = some (some (.int .u16 0), 1, 2) := by rw [elemH]; kernel_rfl
theorem undH : Try.prog.underlying 51 = some (.slice (Try.prog.elem 51)) := by rw [elemH]; exact Try.underlying51
/-- One more is in the list of what was told. -/
theorem take_more {zs : List Int} {j : Nat} {z : Int} (h : zs[j]? = some z) : (fun y : Int => decide (y ∈ zs.take j) || decide (y = z)) = fun y => decide (y ∈ zs.take (j + 1)) := by
  funext y
  rw [List.take_add_one, h]
  simp
theorem not_yet {zs : List Int} {j : Nat} {z : Int} (hn : zs.Nodup) (h : zs[j]? = some z) : z ∉ zs.take j := fun hm => by
  obtain ⟨i, hi, e⟩ := List.getElem_of_mem hm
  rw [List.length_take] at hi
  obtain ⟨hj, ej⟩ := List.getElem?_eq_some_iff.1 h
  have := List.pairwise_iff_getElem.1 hn i j (by omega) hj (by omega)
  rw [List.getElem_take] at e
  exact this (by rw [e, ej])
set_option maxHeartbeats 8000000 in
theorem ttells (n0 c0 n1 c1 : Nat) (A0 A1 : Option Addr) (l0 l1 : List Nat) (W : World) (hA0 : KsIn .u16 W W.heap.size A0 n0 l0) (hl0 : ∀ z ∈ l0, z < 65536) (hn0 : n0 ≤ 140737488351232) (hc0 : n0 ≤ c0) (hA1 : KsIn .u32 W W.heap.size A1 n1 l1) (hl1 : ∀ z ∈ l1, z < 4294967296) (hn1 : n1 ≤ 140737488351232) :
    Calls Try.prog 4 #[.slice A0 n0 c0, .slice A1 n1 c1] W fun r w' => r = .returned (.bool true) ∧ Keep W w' := by
  obtain ⟨m, hm⟩ : ∃ m, min n0 20 = m := ⟨_, rfl⟩
  have hmin := run_min20 n0 m hm
  have hcut := run_head_sa (P := Try.prog) (k := 1) undH infoH n0 c0 m A0 (by omega)
  have hmk := run_make_us (P := Try.prog) (t := 53) Try.underlying53 infoU64 m (by omega)
  have hM : m ≤ 20 ∧ m ≤ n0 := by omega
  obtain ⟨E, hE⟩ : ∃ E : Nat → Nat, E = fun k => 1 + l0.getD k 0 := ⟨_, rfl⟩
  have hEb : ∀ k, 1 ≤ E k ∧ E k ≤ 65536 := fun k => by
    rw [hE]
    show 1 ≤ 1 + l0.getD k 0 ∧ 1 + l0.getD k 0 ≤ 65536
    rw [List.getD_eq_getElem?_getD]
    cases h : l0[k]? with
    | none => simp
    | some x => have := hl0 x (List.mem_of_getElem? h); simp; omega
  have hEx : ∀ k x, l0[k]? = some x → E k = 1 + x ∧ x < 65536 := fun k x h => by
    refine ⟨?_, hl0 x (List.mem_of_getElem? h)⟩
    rw [hE]
    show 1 + l0.getD k 0 = 1 + x
    rw [List.getD_eq_getElem?_getD, h]; rfl
  have HEB := Lib.hid hEb
  have HEX := Lib.hid hEx
  have H0 := Lib.hid hA0
  have H1 := Lib.hid hA1
  have HL1 := Lib.hid hl1
  have HM := Lib.hid hM
  clear hA0 hA1 hl0 hl1 hM hE hEb hEx hm hc0
  go_enter Try.func4, Try.ntmps4
  go_wp2_with fail
  refine (one_new W).mono ?_
  rintro r v0 ⟨g, mb, rfl, t⟩
  have T0 := Lib.hid t
  clear t
  go_wp2_with fail
  refine (tawake v0).mono ?_
  rintro r v1 ⟨rfl, k⟩
  have T1 := Lib.hid (T0.out.later k)
  clear k
  have mk := hmk v1
  obtain ⟨ba, hba⟩ : ∃ ba, v1.heap.size = ba := ⟨_, rfl⟩
  have hat := AtU.made v1 m 27
  have kA : Keep v1 (v1.alloc (.cells (madeCells #[.int .u64 0] m) 27)) := (Keep.refl v1).alloc _ _
  have hsz : (v1.alloc (.cells (madeCells #[.int .u64 0] m) 27)).heap.size = v1.heap.size + 1 := by simp
  obtain ⟨v2, hv2⟩ : ∃ v2, v1.alloc (.cells (madeCells #[.int .u64 0] m) 27) = v2 := ⟨_, rfl⟩
  rw [hv2] at hat kA hsz mk
  rw [hba] at hat hsz mk
  have T2 : Hid (Tel W v2 g mb 0 (almsL E E 0) ba m (fun k => if k < 0 then E k else 0)) := Lib.hid ⟨T1.out.t.keep kA, T1.out.k.trans kA, hat.congr (fun k _ => by simp), by have h1 := T1.out.t.lt; have h2 := T1.out.t.mlt; have h3 := T1.out.k.size; omega⟩
  clear hat kA hsz hba hv2 hmk
  go_wp2_with fail
  go_loopw [32] (fun iv wr => ∃ i : Nat, iv = .int .i64 i ∧ i ≤ m ∧ Tel W wr g mb 0 (almsL E E i) ba m (fun k => if k < i then E k else 0)) (fun iv _ => m - (intOf iv).toNat)
  case atStart => exact ⟨0, rfl, Nat.zero_le _, T2.out⟩
  case round =>
    obtain ⟨i, rfl, hi, ht⟩ := hrel
    have HT := Lib.hid ht
    clear ht
    by_cases hlt : i < m
    · obtain ⟨b, off, x, hA, _, hx, hc⟩ := H0.out.one (j := i) (by have := HM.out; omega)
      subst hA
      have hcell := hc _ HT.out.k
      have hEi := HEX.out i x hx
      obtain ⟨e, he⟩ : ∃ e, E i = e := ⟨_, rfl⟩
      rw [he] at hEi
      have w1 : IntKind.u64.wrap (x : Int) = (x : Int) := IntWalk.u64_in _ (by omega)
      have w2 : IntKind.u64.wrap ((1 : Int) + (x : Int)) = (e : Int) := by rw [IntWalk.u64_in _ (by omega)]; omega
      have g0 : (0 : Int) ≤ (i : Int) := Int.natCast_nonneg _
      have g1 : (i : Int) < (m : Int) := by omega
      obtain ⟨o1, o2⟩ := HT.out.us i hlt
      have T5 := HT.out.stored hlt e
      have c5 := (T5.us i hlt).1
      rw [if_pos rfl] at c5
      have CS : Hid _ := Lib.hid (one_set T5.one (i : Int) e (he ▸ (almsL_set HEB.out).1) (he ▸ (almsL_set HEB.out).2) (by have := HM.out; omega) (by omega) (by rw [almsL_length]; have := HM.out; omega))
      have HT5 := Lib.hid T5
      have HLT := Lib.hid hlt
      have HE2 := Lib.hid he
      have rw1 : IntKind.i64.wrap ((i : Int) + 1) = (i : Int) + 1 := IntWalk.i64_in _ (by have := HM.out; omega)
      clear hx hc hEi he T5 hlt hi
      go_wp2_with fail
      refine CS.out.mono ?_
      rintro r v5 ⟨rfl, o, t⟩
      have T6 := Lib.hid (HT5.out.step o t)
      clear o t
      go_wp2_with fail
      go_roundw
      case rel => exact ⟨i + 1, by go_num, HLT.out, T6.out.congr fun k hk => by
        by_cases e1 : k = i
        · subst e1; rw [if_pos (by omega), if_pos rfl]; exact HE2.out
        · rw [if_neg e1]
          by_cases e2 : k < i
          · rw [if_pos (by omega), if_pos e2]
          · rw [if_neg (by omega), if_neg e2]⟩
      case measure => simp [intOf]; have := HLT.out; omega
    · obtain rfl : i = m := by omega
      have T7 : Hid (Tel W wr g mb 0 (almsL E E i) ba i E) := Lib.hid (HT.out.congr fun k hk => by rw [if_pos hk])
      clear hlt hi HT
      go_wp2_with fail
      go_loopw [9, 54] (fun cv iv wr => ∃ (c t : Nat) (D : Nat → Nat), cv = .int .u64 c ∧ iv = .int .i64 t ∧ Tel W wr g mb c (almsL E D i) ba i D ∧ t ≤ n1 ∧ (t ≤ 100 ∧ c ≤ t * 1073741824)) (fun cv iv _ => n1 - (intOf iv).toNat)
      case atStart => exact ⟨0, 0, E, rfl, rfl, T7.out, Nat.zero_le _, by omega, by omega⟩
      case round =>
        obtain ⟨c, t, D, rfl, rfl, ht, hi, hiv⟩ := hrel
        have HT := Lib.hid ht
        have HIV := Lib.hid hiv
        clear ht hiv
        by_cases hlt : t < n1
        · by_cases h100 : t = 100
          · have c60 : decide ((t : Int) = 100) = true := decide_eq_true (by omega)
            have c60' : ((t : Int) == 100) = true := beq_iff_eq.2 (by omega)
            obtain ⟨b, off, p, hA, _, hp, hc⟩ := H1.out.one hlt
            subst hA
            have hcell := hc _ HT.out.k
            have g0 : (0 : Int) ≤ (t : Int) := Int.natCast_nonneg _
            have g1 : (t : Int) < (n1 : Int) := by omega
            clear hlt h100 hi hp hc
            go_wp2_with fail
            go_ret
            exact ⟨rfl, HT.out.k⟩
          · have c60 : decide ((t : Int) = 100) = false := decide_eq_false (by omega)
            have c60' : ((t : Int) == 100) = false := beq_eq_false_iff_ne.2 (by omega)
            obtain ⟨b, off, p, hA, _, hp, hc⟩ := H1.out.one hlt
            subst hA
            have hcell := hc _ HT.out.k
            have g0 : (0 : Int) ≤ (t : Int) := Int.natCast_nonneg _
            have g1 : (t : Int) < (n1 : Int) := by omega
            have hs := HIV.out
            have hpl := HL1.out p (List.mem_of_getElem? hp)
            obtain ⟨q, hq⟩ : ∃ q, p % 1073741824 = q := ⟨_, rfl⟩
            have hq2 : q < 1073741824 := by rw [← hq]; exact Nat.mod_lt _ (by decide)
            have r1 : (p : Int) % 1073741824 = (q : Int) := by omega
            have r2 : Int.tmod (p : Int) 1073741824 = (q : Int) := by rw [Int.tmod_eq_emod_of_nonneg (Int.natCast_nonneg _)]; exact r1
            have r3 : IntKind.u32.wrap (q : Int) = (q : Int) := IntWalk.u32_in _ (by omega)
            have r4 : IntKind.u64.wrap (q : Int) = (q : Int) := IntWalk.u64_in _ (by omega)
            obtain ⟨c2, hc2⟩ : ∃ c2, c + q = c2 := ⟨_, rfl⟩
            have r5 : IntKind.u64.wrap ((c : Int) + (q : Int)) = (c2 : Int) := by rw [IntWalk.u64_in _ (by omega)]; omega
            have r7 : ((c2 : Int) != (c2 : Int)) = false := by simp
            have hcl : c + q ≤ maxT := by unfold maxT; omega
            obtain ⟨zs, hzs⟩ : ∃ zs, namesZ (dueL c2 (almsL E D i)) = zs := ⟨_, rfl⟩
            have HZ : Hid (ToldZ D i c2 zs) := Lib.hid (hzs ▸ toldZ_of E D i c2)
            obtain ⟨mm, hmm⟩ : ∃ mm, zs.length = mm := ⟨_, rfl⟩
            have hmm2 : mm ≤ 20 := by
              rw [← hmm, ← hzs]
              unfold namesZ
              rw [List.length_map, (dueL_perm (almsL_rising E D i)).length_eq]
              have := List.length_filter_le (fun a : Alarm => decide (a.due ≤ c2)) (almsL E D i)
              rw [almsL_length] at this
              have := HM.out; omega
            have CT := Lib.hid (one_tick HT.out.one q (E := 0) (k := c2) (m := mm) (zs := zs) (l2 := almsL E (tickD E D c2) i) (tickE_ok hcl) (by rw [tickC_ok hcl]; exact hc2) (by unfold tickZ; rw [if_neg (by omega), hc2]; exact hzs) hmm (by unfold tickR; rw [if_neg (by omega), hc2]; exact almsL_tick (fun k => (HEB.out k).2) (by omega)) (by omega))
            have HI2 : Hid (t + 1 ≤ 100 ∧ c2 ≤ (t + 1) * 1073741824) := Lib.hid (by omega)
            have HLT := Lib.hid hlt
            have rw1 : IntKind.i64.wrap ((t : Int) + 1) = (t : Int) + 1 := IntWalk.i64_in _ (by omega)
            have HMM := Lib.hid (And.intro hmm2 hmm)
            clear hlt h100 hi hp hc hpl hq hq2 hs hc2 hcl hzs hmm hmm2
            go_wp2_with fail
            refine CT.out.mono ?_
            rintro r v8 ⟨A8, c8, rfl, o8, t8, tt8⟩
            have T8 := Lib.hid (HT.out.step t8 tt8)
            have O8 := Lib.hid o8
            have HLO : Hid (W.heap.size ≤ wr.heap.size) := Lib.hid HT.out.k.size
            have HSZ : Hid (wr.heap.size ≤ v8.heap.size) := Lib.hid tt8.size
            clear t8 tt8 o8
            go_wp2_with fail
            refine (tnow T8.out.t).mono ?_
            rintro r v9 ⟨rfl, hv9⟩
            obtain rfl : v8 = v9 := hv9.symm
            have hmk := run_makeMap (P := Try.prog) 56 v8
            have hmt := MapT.made v8
            have kM : Keep v8 (v8.alloc (.map #[] 0)) := (Keep.refl v8).allocMap _ _
            obtain ⟨bt, hbt⟩ : ∃ bt, v8.heap.size = bt := ⟨_, rfl⟩
            obtain ⟨va, hva⟩ : ∃ va, v8.alloc (.map #[] 0) = va := ⟨_, rfl⟩
            rw [hva] at hmk hmt kM
            have Ta := Lib.hid (T8.out.later kM)
            have Oa := Lib.hid (O8.out.keep kM)
            have HBT : Hid ((g < bt ∧ mb < bt) ∧ ba < bt ∧ W.heap.size ≤ bt ∧ ∀ x, (Value.slice A8 mm c8).ownBlock = some x → x < bt) := Lib.hid ⟨by have := T8.out.t.lt; have := T8.out.t.mlt; omega, by have := T8.out.hb; omega, by have := T8.out.k.size; omega, fun x hx => by have := (O8.out.low x hx).2; omega⟩
            rw [hbt] at hmk hmt
            have Ma := Lib.hid hmt
            clear hmt kM hbt hva
            go_wp2_with fail
            go_loopw [15, 85] (fun lv jv wr => ∃ (la j : Nat), lv = .int .u64 la ∧ jv = .int .i64 j ∧ j ≤ mm ∧ Tel W wr g mb c2 (almsL E (tickD E D c2) i) ba i D ∧ MapT wr bt j (fun z => decide (z ∈ zs.take j)) ∧ (∃ bz, OwnZ wr bz A8 mm c8 zs) ∧ ∀ x : Nat, zs[j]? = some (x : Int) → la ≤ D x) (fun lv jv _ => mm - (intOf jv).toNat)
            case atStart => exact ⟨0, 0, rfl, rfl, Nat.zero_le _, Ta.out, by simpa using Ma.out, ⟨_, Oa.out⟩, fun x _ => Nat.zero_le _⟩
            case round =>
              obtain ⟨la, j, rfl, rfl, hj, ht, hmt, ⟨bz, ho⟩, hla⟩ := hrel
              have HTb := Lib.hid ht
              have HMb := Lib.hid hmt
              have HOb := Lib.hid ho
              by_cases hjl : j < mm
              · obtain ⟨gz, z, hA8, _, _, hz, hcz⟩ := ho.at_ hjl
                subst hA8
                rw [Nat.zero_add] at hcz
                obtain ⟨x, hxi, hxd, rfl⟩ := (HZ.out.mem z).1 (List.mem_of_getElem? hz)
                have wfx := i64_lit (z := (x : Int)) (by omega) (by have := HM.out; omega)
                have lk : (Instr.lookup 56 (.map (some bt)) (.int .i64 (x : Int)) false).run Try.prog wr = .ok (.int .i64 0) wr := hmt.look wfx (b := false) (decide_eq_false (not_yet HZ.out.nodup hz))
                obtain ⟨w5, hput, m5, t5⟩ := hmt.put wfx (by have := HMM.out; omega)
                rw [take_more hz] at m5
                obtain ⟨dx, hdx⟩ : ∃ dx, D x = dx := ⟨_, rfl⟩
                have cx := (ht.us x hxi).1
                rw [hdx] at cx
                have hle := hla x hz
                rw [hdx] at hle
                have b1 : decide ((dx : Int) < (la : Int)) = false := decide_eq_false (by omega)
                have b2 : decide (dx < la) = false := decide_eq_false (by omega)
                have x0 : (0 : Int) ≤ (x : Int) := Int.natCast_nonneg _
                have x1 : (x : Int) < (i : Int) := by omega
                have j0 : (0 : Int) ≤ (j : Int) := Int.natCast_nonneg _
                have j1 : (j : Int) < (mm : Int) := by omega
                have HJ := Lib.hid hjl
                have rj : IntKind.i64.wrap ((j : Int) + 1) = (j : Int) + 1 := IntWalk.i64_in _ (by have := HMM.out; omega)
                have hbt := HBT.out
                have T5 := Lib.hid (ht.turned t5 (by omega) (by omega) (by omega) (fun k e => by omega))
                have M5 := Lib.hid m5
                have O5 := Lib.hid (ho.turned t5 fun y hy e => by have := hbt.2.2.2 y hy; omega)
                have R5 : Hid (∀ y : Nat, zs[j + 1]? = some (y : Int) → dx ≤ D y) := Lib.hid fun y hy => hdx ▸ HZ.out.rise j (j + 1) x y (Nat.le_succ _) hz hy
                clear hj ht hmt ho hla hjl hz hxi hxd wfx m5 t5 hdx hle hbt
                go_wp2_with fail
                go_roundw
                case rel => exact ⟨dx, j + 1, rfl, by go_num, HJ.out, T5.out, M5.out, ⟨_, O5.out⟩, R5.out⟩
                case measure => simp [intOf]; have := HJ.out; omega
              · have hje : j = mm := by omega
                subst hje
                have hM8 : MapT wr bt j (fun z => decide (z ∈ zs)) := by
                  have h := HMb.out
                  rwa [List.take_of_length_le (by have := HMM.out; omega)] at h
                have M8 := Lib.hid hM8
                clear hj ht hmt ho hla hjl hM8
                go_wp2_with fail
                go_loopw [110] (fun kv wr => ∃ k : Nat, kv = .int .i64 k ∧ k ≤ i ∧ Tel W wr g mb c2 (almsL E (tickD E D c2) i) ba i (fun j => if j < k then tickD E D c2 j else D j) ∧ MapT wr bt j (fun z => decide (z ∈ zs))) (fun kv _ => i - (intOf kv).toNat)
                case atStart => exact ⟨0, rfl, Nat.zero_le _, HTb.out.congr (fun k _ => by simp), M8.out⟩
                case round =>
                  obtain ⟨k, rfl, hk, ht, hmt⟩ := hrel
                  have HTc := Lib.hid ht
                  have HMc := Lib.hid hmt
                  by_cases hkl : k < i
                  · have wfk := i64_lit (z := (k : Int)) (by omega) (by have := HM.out; omega)
                    have ck := ht.us k hkl
                    rw [if_neg (Nat.lt_irrefl k)] at ck
                    obtain ⟨ck, fk⟩ := ck
                    obtain ⟨dk, hdk⟩ : ∃ dk, D k = dk := ⟨_, rfl⟩
                    rw [hdk] at ck
                    have k0 : (0 : Int) ≤ (k : Int) := Int.natCast_nonneg _
                    have k1 : (k : Int) < (i : Int) := by omega
                    have rk : IntKind.i64.wrap ((k : Int) + 1) = (k : Int) + 1 := IntWalk.i64_in _ (by have := HM.out; omega)
                    have HK := Lib.hid hkl
                    by_cases hd : dk ≤ c2
                    · have hin : decide ((k : Int) ∈ zs) = true := decide_eq_true ((HZ.out.mem _).2 ⟨k, hkl, by rw [hdk]; exact hd, rfl⟩)
                      have lk : ∀ q, (Instr.lookup 56 (.map (some bt)) (.int .i64 (k : Int)) false).run Try.prog (wr.drewN q) = .ok (.int .i64 1) (wr.drewN q) := fun q => (hmt.block (w' := wr.drewN q) rfl).look wfk (b := true) hin
                      have lk0 : (Instr.lookup 56 (.map (some bt)) (.int .i64 (k : Int)) false).run Try.prog wr = .ok (.int .i64 1) wr := lk 0
                      have b1 : decide ((dk : Int) ≤ (c2 : Int)) = true := decide_eq_true (by omega)
                      have b2 : decide (dk ≤ c2) = true := decide_eq_true hd
                      obtain ⟨bx, ox, x, hA, _, hx, hcx⟩ := H0.out.one (j := k) (by have := HM.out; omega)
                      subst hA
                      have cx := hcx _ HTc.out.k
                      have hEk := HEX.out k x hx
                      obtain ⟨v, hv⟩ : ∃ v, c2 + E k = v := ⟨_, rfl⟩
                      have hi2 := HI2.out
                      obtain ⟨c3, hc3⟩ : ∃ c3, c2 + 1 = c3 := ⟨_, rfl⟩
                      have w1 : IntKind.u64.wrap (x : Int) = (x : Int) := IntWalk.u64_in _ (by omega)
                      have w2 : IntKind.u64.wrap ((c2 : Int) + 1) = (c3 : Int) := by rw [IntWalk.u64_in _ (by omega)]; omega
                      have w3 : IntKind.u64.wrap ((c3 : Int) + (x : Int)) = (v : Int) := by rw [IntWalk.u64_in _ (by omega)]; omega
                      have HV : Hid (tickD E D c2 k = v) := Lib.hid (by unfold tickD; rw [if_pos (by rw [hdk]; exact hd)]; exact hv)
                      clear hk ht hmt hkl wfk hdk hd hin hx hcx hEk hv hi2 hc3
                      go_wp2_with fail
                      go_quiet (fail)
                      have TS := Lib.hid ((HTc.out.later ((Keep.refl wr).drewN nq)).stored HK.out v)
                      have MS := Lib.hid ((HMc.out.block (w' := wr.drewN nq) rfl).turned (Turned.set (F := fun b => b = ba) (wr.drewN nq) ⟨ba, k, none⟩ (.int .u64 (v : Int)) rfl) (by have := HBT.out; omega))
                      have lkq := lk nq
                      have cxq : (wr.drewN nq).cell? ⟨bx, ox + k, none⟩ = some (.int .u16 (x : Int)) := cx
                      have ckq : (wr.drewN nq).cell? ⟨ba, k, none⟩ = some (.int .u64 (dk : Int)) := ck
                      have fkq : (wr.drewN nq).frozen? ⟨ba, k, none⟩ = false := fk
                      clear lk lk0 cx ck fk
                      go_wp2_with fail
                      go_roundw
                      case rel => exact ⟨k + 1, by go_num, HK.out, TS.out.congr (fun y hy => by
                        by_cases e1 : y = k
                        · subst e1; rw [if_pos (by omega), if_pos rfl]; exact HV.out
                        · rw [if_neg e1]
                          by_cases e2 : y < k
                          · rw [if_pos (by omega), if_pos e2]
                          · rw [if_neg (by omega), if_neg e2]), MS.out⟩
                      case measure => simp [intOf]; have := HK.out; omega
                    · have hin : decide ((k : Int) ∈ zs) = false := decide_eq_false fun e => by
                        obtain ⟨y, _, h2, h3⟩ := (HZ.out.mem _).1 e
                        have : y = k := by omega
                        subst this
                        rw [hdk] at h2; exact hd h2
                      have lk : ∀ q, (Instr.lookup 56 (.map (some bt)) (.int .i64 (k : Int)) false).run Try.prog (wr.drewN q) = .ok (.int .i64 0) (wr.drewN q) := fun q => (hmt.block (w' := wr.drewN q) rfl).look wfk (b := false) hin
                      have lk0 : (Instr.lookup 56 (.map (some bt)) (.int .i64 (k : Int)) false).run Try.prog wr = .ok (.int .i64 0) wr := lk 0
                      have b1 : decide ((dk : Int) ≤ (c2 : Int)) = false := decide_eq_false (by omega)
                      have b2 : decide (dk ≤ c2) = false := decide_eq_false hd
                      have HV : Hid (tickD E D c2 k = D k) := Lib.hid (by unfold tickD; rw [if_neg (by rw [hdk]; exact hd)])
                      clear hk ht hmt hkl wfk hdk hd hin
                      go_wp2_with fail
                      go_quiet (fail)
                      have TS := Lib.hid (HTc.out.later ((Keep.refl wr).drewN nq))
                      have MS := Lib.hid (HMc.out.block (w' := wr.drewN nq) rfl)
                      have lkq := lk nq
                      clear lk lk0
                      go_wp2_with fail
                      go_roundw
                      case rel => exact ⟨k + 1, by go_num, HK.out, TS.out.congr (fun y hy => by
                        by_cases e1 : y = k
                        · subst e1; rw [if_pos (by omega), if_neg (Nat.lt_irrefl _)]; exact HV.out
                        · by_cases e2 : y < k
                          · rw [if_pos (by omega), if_pos e2]
                          · rw [if_neg (by omega), if_neg e2]), MS.out⟩
                      case measure => simp [intOf]; have := HK.out; omega
                  · obtain rfl : k = i := by omega
                    have Te := Lib.hid (HTc.out.congr (f' := tickD E D c2) fun y hy => by rw [if_pos hy])
                    clear hk ht hmt hkl
                    go_wp2_with fail
                    go_roundw
                    case rel => exact ⟨c2, t + 1, tickD E D c2, rfl, by go_num, Te.out, HLT.out, HI2.out⟩
                    case measure => simp [intOf]; have := HLT.out; omega
        · have g1 : ¬ (t : Int) < (n1 : Int) := by omega
          clear hlt hi
          go_wp2_with fail
          go_ret
          exact ⟨rfl, HT.out.k⟩
end Go.Proofs.Ytjjoieahodfikaa
