/- TimerApart. -/
import Derived.Test.YtjjoieahodfikaaQae
namespace Go.Proofs.Ytjjoieahodfikaa
open Go.RowKit Go.Maps Tmr
set_option linter.unusedVariables false
set_option linter.unusedSimpArgs false
set_option maxRecDepth 100000
/-- Three timers side by side. -/
structure Trio (W w : World) (g m k : Nat) (l : List Alarm) (g' m' k' : Nat) (l' : List Alarm) (g2 m2 k2 : Nat) (l2 : List Alarm) : Prop where
  a : TmL w W.heap.size g m k l
  b : TmL w W.heap.size g' m' k' l'
  c : TmL w W.heap.size g2 m2 k2 l2
  k : Keep W w
  ap : ((g ≠ g' ∧ g ≠ m') ∧ m ≠ g' ∧ m ≠ m') ∧ ((g ≠ g2 ∧ g ≠ m2) ∧ m ≠ g2 ∧ m ≠ m2) ∧ (g' ≠ g2 ∧ g' ≠ m2) ∧ m' ≠ g2 ∧ m' ≠ m2
namespace Trio
variable {W w w' : World} {g m k g' m' k' g2 m2 k2 : Nat} {l l' l2 : List Alarm}
theorem rot (T : Trio W w g m k l g' m' k' l' g2 m2 k2 l2) : Trio W w g' m' k' l' g2 m2 k2 l2 g m k l := ⟨T.b, T.c, T.a, T.k, by have := T.ap; omega⟩
theorem later (T : Trio W w g m k l g' m' k' l' g2 m2 k2 l2) (h : Keep w w') : Trio W w' g m k l g' m' k' l' g2 m2 k2 l2 := ⟨T.a.keep h, T.b.keep h, T.c.keep h, T.k.trans h, T.ap⟩
theorem one (T : Trio W w g m k l g' m' k' l' g2 m2 k2 l2) : One W w g m k l := ⟨T.a, T.k⟩
theorem step {kk : Nat} {ll : List Alarm} (T : Trio W w g m k l g' m' k' l' g2 m2 k2 l2) (o : One W w' g m kk ll) (t : Turned (FpT g m) w w') : Trio W w' g m kk ll g' m' k' l' g2 m2 k2 l2 :=
  ⟨o.t, T.b.turned t (fun e => by have := T.ap; rcases e with e | e <;> omega) (fun e => by have := T.ap; rcases e with e | e <;> omega), T.c.turned t (fun e => by have := T.ap; rcases e with e | e <;> omega) (fun e => by have := T.ap; rcases e with e | e <;> omega), o.k, T.ap⟩
theorem of {W w : World} (A : Duo W w g m k l g' m' k' l') (h : TmL w' w.heap.size g2 m2 k2 l2) (kk : Keep w w') : Trio W w' g m k l g' m' k' l' g2 m2 k2 l2 :=
  ⟨A.a.keep kk, A.b.keep kk, ⟨h.block, h.map, h.ap, by have := h.low; have := A.k.size; omega, h.rising, h.clock, h.fine, h.few⟩, A.k.trans kk, by have := A.ap; have := A.a.lt; have := A.a.mlt; have := A.b.lt; have := A.b.mlt; have := h.low; omega⟩
end Trio
section
variable {W w : World} {g m k g' m' k' g2 m2 k2 : Nat} {l l' l2 : List Alarm}
theorem trio_new (A : Duo W w g m k l g' m' k' l') : Calls Try.prog 9 #[] w fun r w' => ∃ g2 m2, r = .returned (.pointer (some ⟨g2, 0, none⟩)) ∧ Trio W w' g m k l g' m' k' l' g2 m2 0 [] :=
  (tnew_any w).mono fun r w' ⟨g2, m2, e, h, kk⟩ => ⟨g2, m2, e, Trio.of A h kk⟩
theorem trio_set (T : Trio W w g m k l g' m' k' l' g2 m2 k2 l2) (x : Int) (e : Nat) {E : Int} {ll : List Alarm} (hE : setE l x e = E) (hR : setR k l x e = ll) (h1 : x < 9223372036854775808) (h2 : -9223372036854775808 ≤ x) (hf : l.length < 100000) :
    Calls Try.prog 10 #[.pointer (some ⟨g, 0, none⟩), .int .i64 x, .int .u64 (e : Int)] w fun r w' => r = .returned (.int .i64 E) ∧ Trio W w' g m k ll g' m' k' l' g2 m2 k2 l2 :=
  (one_set T.one x e hE hR h1 h2 hf).mono fun r w' ⟨e, o, t⟩ => ⟨e, T.step o t⟩
theorem trio_tick (T : Trio W w g m k l g' m' k' l' g2 m2 k2 l2) (n : Nat) {E : Int} {kk mm : Nat} {zs : List Int} {ll : List Alarm} (hE : tickE k n = E) (hC : tickC k n = kk) (hZ : tickZ k l n = zs) (hm : zs.length = mm) (hR : tickR k l n = ll) (hn : n < 18446744073709551616) :
    Calls Try.prog 16 #[.pointer (some ⟨g, 0, none⟩), .int .u64 (n : Int)] w fun r w' => ∃ A c, r = .returned (.tuple #[.slice A mm c, .int .i64 E]) ∧ OwnZ w' w.heap.size A mm c zs ∧ Trio W w' g m kk ll g' m' k' l' g2 m2 k2 l2 ∧ Turned (FpT g m) w w' :=
  (one_tick T.one n hE hC hZ hm hR hn).mono fun r w' ⟨A, c, e, o, h, t⟩ => ⟨A, c, e, o, T.step h t, t⟩
end
/-- Two alarms: what a Tick tells of them, what it leaves. -/
theorem two_rising (ea da eb db : Nat) : Rising [⟨2, eb, db⟩, ⟨7, ea, da⟩] := by simp [Rising]
theorem two_told (ea da eb db clk n : Nat) (h : clk + n ≤ maxT) : (tickZ clk [⟨2, eb, db⟩, ⟨7, ea, da⟩] n).length = toldN da (clk + n) + toldN db (clk + n) := by
  unfold tickZ namesZ
  rw [if_neg (by omega), List.length_map, (dueL_perm (two_rising ea da eb db)).length_eq]
  unfold toldN
  simp only [List.filter_cons, List.filter_nil]
  by_cases h1 : da ≤ clk + n <;> by_cases h2 : db ≤ clk + n <;> simp [h1, h2]
theorem two_which (ea da eb db clk n : Nat) (h : clk + n ≤ maxT) : ∀ z ∈ tickZ clk [⟨2, eb, db⟩, ⟨7, ea, da⟩] n, (z = 7 ∧ toldN da (clk + n) = 1) ∨ (z = 2 ∧ toldN db (clk + n) = 1) := fun z hz => by
  unfold tickZ namesZ at hz
  rw [if_neg (by omega)] at hz
  obtain ⟨a, ha, rfl⟩ := List.mem_map.1 hz
  obtain ⟨h1, h2⟩ := (mem_dueL (two_rising ea da eb db)).1 ha
  simp only [List.mem_cons, List.not_mem_nil, or_false] at h1
  unfold toldN
  rcases h1 with rfl | rfl
  · exact Or.inr ⟨rfl, if_pos h2⟩
  · exact Or.inl ⟨rfl, if_pos h2⟩
theorem two_left (ea da eb db clk n : Nat) (h : clk + n ≤ maxT) : tickR clk [⟨2, eb, db⟩, ⟨7, ea, da⟩] n = [⟨2, eb, nextD eb db (clk + n)⟩, ⟨7, ea, nextD ea da (clk + n)⟩] := by
  unfold tickR tickL nextD
  rw [if_neg (by omega)]
  simp only [List.map_cons, List.map_nil]
  by_cases h1 : da ≤ clk + n <;> by_cases h2 : db ≤ clk + n <;> simp [h1, h2, anew]
theorem set_first (x : Nat) (e : Nat) (h1 : 1 ≤ e) (h2 : e ≤ 65536) : setE [] (x : Int) e = 0 ∧ setR 0 [] (x : Int) e = [⟨x, e, e⟩] := by
  have h : setE [] (x : Int) e = 0 := by unfold setE maxT; rw [if_neg (by omega), if_neg (by simp)]
  refine ⟨h, ?_⟩
  unfold setR
  rw [if_pos h, show later 0 e = e by unfold later maxT; omega]; rfl
theorem set_second (ea e : Nat) (h1 : 1 ≤ e) (h2 : e ≤ 65536) : setE [⟨7, ea, ea⟩] 2 e = 0 ∧ setR 0 [⟨7, ea, ea⟩] 2 e = [⟨2, e, e⟩, ⟨7, ea, ea⟩] := by
  have h : setE [⟨7, ea, ea⟩] 2 e = 0 := by unfold setE maxT; rw [if_neg (by omega), if_neg (by simp)]
  refine ⟨h, ?_⟩
  unfold setR
  rw [if_pos h, show later 0 e = e by unfold later maxT; omega]; rfl
set_option maxHeartbeats 8000000 in
theorem tapart (x0 x1 n2 c2 : Nat) (A2 : Option Addr) (l2 : List Nat) (W : World) (hx0 : x0 < 65536) (hx1 : x1 < 65536) (hA : KsIn .u32 W W.heap.size A2 n2 l2) (hl : ∀ z ∈ l2, z < 4294967296) (hn : n2 ≤ 140737488351232) :
    Calls Try.prog 6 #[.int .u16 (x0 : Int), .int .u16 (x1 : Int), .slice A2 n2 c2] W fun r w' => r = .returned (.bool true) ∧ Keep W w' := by
  obtain ⟨ea, hea⟩ : ∃ e, 1 + x0 = e := ⟨_, rfl⟩
  obtain ⟨eb, heb⟩ : ∃ e, 1 + x1 = e := ⟨_, rfl⟩
  have w1 : IntKind.u64.wrap (x0 : Int) = (x0 : Int) := IntWalk.u64_in _ (by omega)
  have w2 : IntKind.u64.wrap ((1 : Int) + (x0 : Int)) = (ea : Int) := by rw [IntWalk.u64_in _ (by omega)]; omega
  have w3 : IntKind.u64.wrap (x1 : Int) = (x1 : Int) := IntWalk.u64_in _ (by omega)
  have w4 : IntKind.u64.wrap ((1 : Int) + (x1 : Int)) = (eb : Int) := by rw [IntWalk.u64_in _ (by omega)]; omega
  have HA := Lib.hid hA
  have HL := Lib.hid hl
  have SA := Lib.hid (set_first 7 ea (by omega) (by omega))
  have SB := Lib.hid (set_first 2 eb (by omega) (by omega))
  have SC := Lib.hid (set_second ea eb (by omega) (by omega))
  clear hA hl hx0 hx1 hea heb
  go_enter Try.func6, Try.ntmps6
  go_wp2_with fail
  refine (one_new W).mono ?_
  rintro r v0 ⟨ga, ma, rfl, t⟩
  have T0 := Lib.hid t
  clear t
  go_wp2_with fail
  refine (duo_new T0.out).mono ?_
  rintro r v1 ⟨gb, mb, rfl, t⟩
  have T1 := Lib.hid t
  clear t
  go_wp2_with fail
  refine (trio_new T1.out).mono ?_
  rintro r v2 ⟨gc, mc, rfl, t⟩
  have T2 := Lib.hid t
  clear t
  go_wp2_with fail
  refine (tawake v2).mono ?_
  rintro r v3 ⟨rfl, k⟩
  have T3 := Lib.hid (T2.out.later k)
  clear k
  go_wp2_with fail
  refine (trio_set T3.out 7 ea SA.out.1 SA.out.2 (by decide) (by decide) (by decide)).mono ?_
  rintro r v4 ⟨rfl, t⟩
  have T4 := Lib.hid t
  clear t
  go_wp2_with fail
  refine (trio_set T4.out 2 eb SC.out.1 SC.out.2 (by decide) (by decide) (by simp)).mono ?_
  rintro r v5 ⟨rfl, t⟩
  have T5 := Lib.hid t.rot
  clear t
  go_wp2_with fail
  refine (trio_set T5.out 7 ea SA.out.1 SA.out.2 (by decide) (by decide) (by decide)).mono ?_
  rintro r v6 ⟨rfl, t⟩
  have T6 := Lib.hid t.rot
  clear t
  go_wp2_with fail
  refine (trio_set T6.out 2 eb SB.out.1 SB.out.2 (by decide) (by decide) (by decide)).mono ?_
  rintro r v7 ⟨rfl, t⟩
  have T7 := Lib.hid t.rot
  clear t
  go_wp2_with fail
  go_loopw [59] (fun iv wr => ∃ (sum i da db : Nat), iv = .int .i64 i ∧ Trio W wr ga ma sum [⟨2, eb, db⟩, ⟨7, ea, da⟩] gb mb sum [⟨7, ea, da⟩] gc mc sum [⟨2, eb, db⟩] ∧ i ≤ n2 ∧ (i ≤ 60 ∧ sum ≤ i * 1048576)) (fun iv _ => n2 - (intOf iv).toNat)
  case atStart => exact ⟨0, 0, ea, eb, rfl, T7.out, Nat.zero_le _, by omega, by omega⟩
  case round =>
    obtain ⟨sum, i, da, db, rfl, hd, hi, hiv⟩ := hrel
    have HD := Lib.hid hd
    have HI := Lib.hid hi
    have HIV := Lib.hid hiv
    clear hd hiv
    by_cases hlt : i < n2
    · by_cases h60 : i = 60
      · have c60 : decide ((i : Int) = 60) = true := decide_eq_true (by omega)
        have c60' : ((i : Int) == 60) = true := beq_iff_eq.2 (by omega)
        obtain ⟨b, off, p, rfl, _, hp, hc⟩ := HA.out.one hlt
        have hcell := hc _ HD.out.k
        have g0 : (0 : Int) ≤ (i : Int) := Int.natCast_nonneg _
        have g1 : (i : Int) < (n2 : Int) := by omega
        clear hlt h60 hi hp hc
        go_wp2_with fail
        go_ret
        exact ⟨rfl, HD.out.k⟩
      · have c60 : decide ((i : Int) = 60) = false := decide_eq_false (by omega)
        have c60' : ((i : Int) == 60) = false := beq_eq_false_iff_ne.2 (by omega)
        obtain ⟨b, off, p, rfl, _, hp, hc⟩ := HA.out.one hlt
        have hcell := hc _ HD.out.k
        have g0 : (0 : Int) ≤ (i : Int) := Int.natCast_nonneg _
        have g1 : (i : Int) < (n2 : Int) := by omega
        have hs := HIV.out
        have hpl := HL.out p (List.mem_of_getElem? hp)
        obtain ⟨q, hq⟩ : ∃ q, p % 1048576 = q := ⟨_, rfl⟩
        have hq2 : q < 1048576 := by rw [← hq]; exact Nat.mod_lt _ (by decide)
        have r1 : (p : Int) % 1048576 = (q : Int) := by omega
        have r2 : Int.tmod (p : Int) 1048576 = (q : Int) := by rw [Int.tmod_eq_emod_of_nonneg (Int.natCast_nonneg _)]; exact r1
        have r3 : IntKind.u32.wrap (q : Int) = (q : Int) := IntWalk.u32_in _ (by omega)
        have r4 : IntKind.u64.wrap (q : Int) = (q : Int) := IntWalk.u64_in _ (by omega)
        obtain ⟨s2, hs2⟩ : ∃ s2, sum + q = s2 := ⟨_, rfl⟩
        have hcl : sum + q ≤ maxT := by unfold maxT; omega
        obtain ⟨u, hu⟩ : ∃ u, toldN da s2 = u := ⟨_, rfl⟩
        obtain ⟨v, hv⟩ : ∃ v, toldN db s2 = v := ⟨_, rfl⟩
        have hu1 : u ≤ 1 := by rw [← hu]; unfold toldN; split <;> omega
        have hv1 : v ≤ 1 := by rw [← hv]; unfold toldN; split <;> omega
        obtain ⟨m1, hm1⟩ : ∃ m1, u + v = m1 := ⟨_, rfl⟩
        obtain ⟨zs, hzs⟩ : ∃ zs, tickZ sum [⟨2, eb, db⟩, ⟨7, ea, da⟩] q = zs := ⟨_, rfl⟩
        have hwh := two_which ea da eb db sum q hcl
        have hlen := two_told ea da eb db sum q hcl
        rw [hs2, hu, hv, hzs] at hwh
        rw [hs2, hu, hv, hm1, hzs] at hlen
        have HWH := Lib.hid hwh
        have r6 : IntKind.i64.wrap ((u : Int) + (v : Int)) = (m1 : Int) := by rw [IntWalk.i64_in _ (by omega)]; omega
        have r7 : ((m1 : Int) != (m1 : Int)) = false := by simp
        have CA : Hid (∀ w, Trio W w ga ma sum [⟨2, eb, db⟩, ⟨7, ea, da⟩] gb mb sum [⟨7, ea, da⟩] gc mc sum [⟨2, eb, db⟩] → _) := Lib.hid fun w h => trio_tick h q (E := 0) (kk := s2) (mm := m1) (zs := zs) (ll := [⟨2, eb, nextD eb db s2⟩, ⟨7, ea, nextD ea da s2⟩]) (tickE_ok hcl) (by rw [tickC_ok hcl]; exact hs2) hzs hlen (by rw [two_left ea da eb db sum q hcl, hs2]) (by omega)
        have CB : Hid (∀ w, Trio W w gb mb sum [⟨7, ea, da⟩] gc mc sum [⟨2, eb, db⟩] ga ma s2 [⟨2, eb, nextD eb db s2⟩, ⟨7, ea, nextD ea da s2⟩] → _) := Lib.hid fun w h => trio_tick h q (E := 0) (kk := s2) (mm := u) (zs := tickZ sum [⟨7, ea, da⟩] q) (ll := [⟨7, ea, nextD ea da s2⟩]) (tickE_ok hcl) (by rw [tickC_ok hcl]; exact hs2) rfl (by rw [one_told 7 ea da sum q hcl, hs2]; exact hu) (by rw [one_left 7 ea da sum q hcl, hs2]) (by omega)
        have CC : Hid (∀ w, Trio W w gc mc sum [⟨2, eb, db⟩] ga ma s2 [⟨2, eb, nextD eb db s2⟩, ⟨7, ea, nextD ea da s2⟩] gb mb s2 [⟨7, ea, nextD ea da s2⟩] → _) := Lib.hid fun w h => trio_tick h q (E := 0) (kk := s2) (mm := v) (zs := tickZ sum [⟨2, eb, db⟩] q) (ll := [⟨2, eb, nextD eb db s2⟩]) (tickE_ok hcl) (by rw [tickC_ok hcl]; exact hs2) rfl (by rw [one_told 2 eb db sum q hcl, hs2]; exact hv) (by rw [one_left 2 eb db sum q hcl, hs2]) (by omega)
        have HI2 : Hid (i + 1 ≤ 60 ∧ s2 ≤ (i + 1) * 1048576) := Lib.hid (by omega)
        have HLT := Lib.hid hlt
        have rw1 : IntKind.i64.wrap ((i : Int) + 1) = (i : Int) + 1 := IntWalk.i64_in _ (by omega)
        have HM1 := Lib.hid (And.intro hm1 (And.intro hu1 hv1))
        clear hlt h60 hi hp hc hpl hq hq2 hs hs2 hcl hu hv hu1 hv1 hm1 hzs hwh hlen
        go_wp2_with fail
        refine (CA.out _ HD.out).mono ?_
        rintro r v8 ⟨A8, c8, rfl, o8, t, -⟩
        have T8 := Lib.hid t.rot
        have O8 := Lib.hid o8
        have HB8 : Hid ((ga < wr.heap.size ∧ ma < wr.heap.size) ∧ (gb < wr.heap.size ∧ mb < wr.heap.size) ∧ gc < wr.heap.size ∧ mc < wr.heap.size) := Lib.hid ⟨⟨HD.out.a.lt, HD.out.a.mlt⟩, ⟨HD.out.b.lt, HD.out.b.mlt⟩, HD.out.c.lt, HD.out.c.mlt⟩
        clear t o8
        go_wp2_with fail
        refine (CB.out _ T8.out).mono ?_
        rintro r v9 ⟨A9, c9, rfl, -, t, t9⟩
        have T9 := Lib.hid t.rot
        have O9 := Lib.hid (O8.out.stay t9 HB8.out.2.1)
        clear t t9
        go_wp2_with fail
        refine (CC.out _ T9.out).mono ?_
        rintro r va ⟨Aa, ca, rfl, -, t, ta⟩
        have Ta := Lib.hid t.rot
        have Oa := Lib.hid (O9.out.stay ta HB8.out.2.2)
        clear t ta
        go_wp2_with fail
        obtain ⟨wo, hwo⟩ : ∃ wo, wo = va := ⟨_, rfl⟩
        go_loopw [111] (fun jv wr => ∃ j : Nat, jv = .int .i64 j ∧ j ≤ m1 ∧ wr = va) (fun jv _ => m1 - (intOf jv).toNat)
        case atStart => exact ⟨0, rfl, Nat.zero_le _, rfl⟩
        case round =>
          obtain ⟨j, rfl, hj, hwr⟩ := hrel
          obtain rfl : va = wr := hwr.symm
          by_cases hjl : j < m1
          · obtain ⟨gz, z, rfl, _, _, hz, hcz⟩ := Oa.out.at_ hjl
            rw [Nat.zero_add] at hcz
            have j0 : (0 : Int) ≤ (j : Int) := Int.natCast_nonneg _
            have j1 : (j : Int) < (m1 : Int) := by omega
            have HJ := Lib.hid hjl
            have hmm := HM1.out
            have rj : IntKind.i64.wrap ((j : Int) + 1) = (j : Int) + 1 := IntWalk.i64_in _ (by omega)
            rcases HWH.out z (List.mem_of_getElem? hz) with ⟨rfl, h1⟩ | ⟨rfl, h1⟩
            · have b1 : ((u : Int) != 1) = false := by rw [h1]; rfl
              clear h1 hz hjl hj hmm
              go_wp2_with fail
              go_roundw
              case rel => exact ⟨j + 1, by go_num, HJ.out, by first | trivial | rfl⟩
              case measure => simp [intOf]; have := HJ.out; omega
            · have b1 : ((v : Int) != 1) = false := by rw [h1]; rfl
              clear h1 hz hjl hj hmm
              go_wp2_with fail
              go_roundw
              case rel => exact ⟨j + 1, by go_num, HJ.out, by first | trivial | rfl⟩
              case measure => simp [intOf]; have := HJ.out; omega
          · have j1 : ¬ (j : Int) < (m1 : Int) := by omega
            clear hjl hj
            go_wp2_with fail
            go_roundw
            case rel => exact ⟨s2, i + 1, nextD ea da s2, nextD eb db s2, by go_num, Ta.out, HLT.out, HI2.out⟩
            case measure => simp [intOf]; have := HLT.out; omega
    · have g1 : ¬ (i : Int) < (n2 : Int) := by omega
      clear hlt hi
      go_wp2_with fail
      go_ret
      exact ⟨rfl, HD.out.k⟩
end Go.Proofs.Ytjjoieahodfikaa
