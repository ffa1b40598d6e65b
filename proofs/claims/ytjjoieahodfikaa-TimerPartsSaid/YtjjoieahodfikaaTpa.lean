/- TimerParts. -/
import Derived.Test.YtjjoieahodfikaaQae
import Derived.Test.YtjjoieahodfikaaQaa
namespace Go.Proofs.Ytjjoieahodfikaa
open Go.RowKit Go.Maps Tmr
set_option linter.unusedVariables false
set_option linter.unusedSimpArgs false
set_option maxRecDepth 100000
/-- Of two timers side by side. -/
structure Duo (W w : World) (g mb clk : Nat) (l : List Alarm) (g' mb' clk' : Nat) (l' : List Alarm) : Prop where
  a : TmL w W.heap.size g mb clk l
  b : TmL w W.heap.size g' mb' clk' l'
  k : Keep W w
  ap : (g ≠ g' ∧ g ≠ mb') ∧ mb ≠ g' ∧ mb ≠ mb'
namespace Duo
variable {W w w' : World} {g mb clk g' mb' clk' : Nat} {l l' : List Alarm}
theorem later (T : Duo W w g mb clk l g' mb' clk' l') (k : Keep w w') : Duo W w' g mb clk l g' mb' clk' l' := ⟨T.a.keep k, T.b.keep k, T.k.trans k, T.ap⟩
theorem swap (T : Duo W w g mb clk l g' mb' clk' l') : Duo W w g' mb' clk' l' g mb clk l := ⟨T.b, T.a, T.k, by have := T.ap; omega⟩
theorem one (T : Duo W w g mb clk l g' mb' clk' l') : One W w g mb clk l := ⟨T.a, T.k⟩
theorem step {clk2 : Nat} {l2 : List Alarm} (T : Duo W w g mb clk l g' mb' clk' l') (o : One W w' g mb clk2 l2) (t : Turned (FpT g mb) w w') : Duo W w' g mb clk2 l2 g' mb' clk' l' :=
  ⟨o.t, T.b.turned t (fun e => by have := T.ap; rcases e with e | e <;> omega) (fun e => by have := T.ap; rcases e with e | e <;> omega), o.k, T.ap⟩
theorem of {W w : World} (A : One W w g mb clk l) (h : TmL w' w.heap.size g' mb' clk' l') (k : Keep w w') : Duo W w' g mb clk l g' mb' clk' l' :=
  ⟨A.t.keep k, ⟨h.block, h.map, h.ap, by have := h.low; have := A.k.size; omega, h.rising, h.clock, h.fine, h.few⟩, A.k.trans k, by have := A.t.lt; have := A.t.mlt; have := h.low; omega⟩
end Duo
section
variable {W w : World} {g mb clk g' mb' clk' : Nat} {l l' : List Alarm}
theorem duo_new (A : One W w g mb clk l) : Calls Try.prog 9 #[] w fun r w' => ∃ g' mb', r = .returned (.pointer (some ⟨g', 0, none⟩)) ∧ Duo W w' g mb clk l g' mb' 0 [] :=
  (tnew_any w).mono fun r w' ⟨g', mb', e, h, k⟩ => ⟨g', mb', e, Duo.of A h k⟩
theorem duo_set (T : Duo W w g mb clk l g' mb' clk' l') (x : Int) (e : Nat) {E : Int} {l2 : List Alarm} (hE : setE l x e = E) (hR : setR clk l x e = l2) (h1 : x < 9223372036854775808) (h2 : -9223372036854775808 ≤ x) (hf : l.length < 100000) :
    Calls Try.prog 10 #[.pointer (some ⟨g, 0, none⟩), .int .i64 x, .int .u64 (e : Int)] w fun r w' => r = .returned (.int .i64 E) ∧ Duo W w' g mb clk l2 g' mb' clk' l' :=
  (one_set T.one x e hE hR h1 h2 hf).mono fun r w' ⟨e, o, t⟩ => ⟨e, T.step o t⟩
theorem duo_tick (T : Duo W w g mb clk l g' mb' clk' l') (n : Nat) {E : Int} {k m : Nat} {zs : List Int} {l2 : List Alarm} (hE : tickE clk n = E) (hC : tickC clk n = k) (hZ : tickZ clk l n = zs) (hm : zs.length = m) (hR : tickR clk l n = l2) (hn : n < 18446744073709551616) :
    Calls Try.prog 16 #[.pointer (some ⟨g, 0, none⟩), .int .u64 (n : Int)] w fun r w' => ∃ A c, r = .returned (.tuple #[.slice A m c, .int .i64 E]) ∧ OwnZ w' w.heap.size A m c zs ∧ Duo W w' g mb k l2 g' mb' clk' l' ∧ Turned (FpT g mb) w w' :=
  (one_tick T.one n hE hC hZ hm hR hn).mono fun r w' ⟨A, c, e, o, h, t⟩ => ⟨A, c, e, o, T.step h t, t⟩
end
def toldN (d clk : Nat) : Nat := if d ≤ clk then 1 else 0
def nextD (e d clk : Nat) : Nat := if d ≤ clk then later clk e else d
theorem one_dueL (x : Nat) (e d c : Nat) : dueL c [⟨x, e, d⟩] = if d ≤ c then [⟨x, e, d⟩] else [] := by
  unfold dueL
  simp only [List.foldl_cons, List.foldl_nil]
  by_cases h : d ≤ c
  · rw [if_neg (show ¬ c < d by omega), if_pos h]; rfl
  · rw [if_pos (show c < d by omega), if_neg h]
theorem one_tickL (x : Nat) (e d c : Nat) : tickL c [⟨x, e, d⟩] = [⟨x, e, nextD e d c⟩] := by
  unfold tickL nextD
  simp only [List.map_cons, List.map_nil]
  by_cases h : d ≤ c
  · simp only [if_pos h]; rfl
  · simp only [if_neg h]
theorem one_told (x e d clk n : Nat) (h : clk + n ≤ maxT) : (tickZ clk [⟨x, e, d⟩] n).length = toldN d (clk + n) := by
  unfold tickZ toldN
  rw [if_neg (by omega), one_dueL]
  split <;> rfl
theorem one_left (x e d clk n : Nat) (h : clk + n ≤ maxT) : tickR clk [⟨x, e, d⟩] n = [⟨x, e, nextD e d (clk + n)⟩] := by
  unfold tickR
  rw [if_neg (by omega), one_tickL]
theorem tickE_ok {clk n : Nat} (h : clk + n ≤ maxT) : tickE clk n = 0 := by unfold tickE; rw [if_neg (by omega)]
theorem tickC_ok {clk n : Nat} (h : clk + n ≤ maxT) : tickC clk n = clk + n := by unfold tickC; rw [if_neg (by omega)]
/-- What holds between two Ticks: as long as it was not told it is due at its every; once told, its time has been reached. -/
structure PartI (e sum d n : Nat) : Prop where
  no : n = 0 → d = e ∧ sum < e
  yes : 0 < n → e ≤ sum
theorem PartI.tick {e sum d n p : Nat} (h : PartI e sum d n) (he : 1 ≤ e) : PartI e (sum + p) (nextD e d (sum + p)) (n + toldN d (sum + p)) := by
  unfold toldN nextD
  by_cases hd : d ≤ sum + p
  · rw [if_pos hd, if_pos hd]
    refine ⟨fun h0 => by omega, fun _ => ?_⟩
    by_cases h0 : n = 0
    · have := (h.no h0).1; omega
    · have := h.yes (by omega); omega
  · rw [if_neg hd, if_neg hd]
    exact ⟨fun h0 => by have := h.no (by omega); omega, fun h0 => by have := h.yes (by omega); omega⟩
theorem PartI.end_ {e sum d n : Nat} (h : PartI e sum d n) : toldN e sum ≤ n ∧ (0 < n ↔ 0 < toldN e sum) := by
  unfold toldN
  by_cases h0 : n = 0
  · have := h.no h0
    rw [if_neg (by omega)]; omega
  · have := h.yes (by omega)
    rw [if_pos this]; omega
set_option maxHeartbeats 8000000 in
theorem tparts (x0 n1 c1 : Nat) (A1 : Option Addr) (l1 : List Nat) (W : World) (hx : x0 < 65536) (hA : KsIn .u32 W W.heap.size A1 n1 l1) (hl : ∀ z ∈ l1, z < 4294967296) (hn : n1 ≤ 140737488351232) :
    Calls Try.prog 5 #[.int .u16 (x0 : Int), .slice A1 n1 c1] W fun r w' => r = .returned (.bool true) ∧ Keep W w' := by
  obtain ⟨e, he⟩ : ∃ e, 1 + x0 = e := ⟨_, rfl⟩
  have w1 : IntKind.u64.wrap (x0 : Int) = (x0 : Int) := IntWalk.u64_in _ (by omega)
  have w2 : IntKind.u64.wrap ((1 : Int) + (x0 : Int)) = (e : Int) := by rw [IntWalk.u64_in _ (by omega)]; omega
  have HA := Lib.hid hA
  have HL := Lib.hid hl
  have HE : Hid (1 ≤ e ∧ e ≤ 65536) := Lib.hid (by omega)
  have hl1 : later 0 e = e := by unfold later maxT; omega
  have hset : setE [] 3 e = 0 := by unfold setE maxT; rw [if_neg (by omega), if_neg (by simp)]
  have hsetR : setR 0 [] 3 e = [⟨3, e, e⟩] := by unfold setR; rw [if_pos hset, hl1]; rfl
  have HS := Lib.hid hset
  have HSR := Lib.hid hsetR
  clear hA hl hx he hl1 hset hsetR
  go_enter Try.func5, Try.ntmps5
  go_wp2_with fail
  refine (one_new W).mono ?_
  rintro r v0 ⟨ga, ma, rfl, t⟩
  have T0 := Lib.hid t
  clear t
  go_wp2_with fail
  refine (duo_new T0.out).mono ?_
  rintro r v1 ⟨gb, mb, rfl, t⟩
  have T1 := Lib.hid t
  clear t
  go_wp2_with fail
  refine (tawake v1).mono ?_
  rintro r v2 ⟨rfl, k⟩
  have T2 := Lib.hid (T1.out.later k)
  clear k
  go_wp2_with fail
  refine (duo_set T2.out 3 e HS.out HSR.out (by decide) (by decide) (by decide)).mono ?_
  rintro r v3 ⟨rfl, t⟩
  have T3 := Lib.hid t.swap
  clear t
  go_wp2_with fail
  refine (duo_set T3.out 3 e HS.out HSR.out (by decide) (by decide) (by decide)).mono ?_
  rintro r v4 ⟨rfl, t⟩
  have T4 := Lib.hid t.swap
  clear t
  go_wp2_with fail
  go_loopw [7, 8, 37] (fun nv sv iv wr => ∃ (n sum i d : Nat), nv = .int .i64 n ∧ sv = .int .u64 sum ∧ iv = .int .i64 i ∧ Duo W wr ga ma sum [⟨3, e, d⟩] gb mb 0 [⟨3, e, e⟩] ∧ PartI e sum d n ∧ i ≤ n1 ∧ (i ≤ 50 ∧ sum ≤ i * 1048576 ∧ n ≤ i)) (fun nv sv iv _ => n1 - (intOf iv).toNat)
  case atStart => exact ⟨0, 0, 0, e, rfl, rfl, rfl, T4.out, ⟨fun _ => ⟨rfl, HE.out.1⟩, fun h => absurd h (Nat.lt_irrefl 0)⟩, Nat.zero_le _, by omega, by omega, by omega⟩
  case round =>
    obtain ⟨n, sum, i, d, rfl, rfl, rfl, hd, hp, hi, hiv⟩ := hrel
    have HD := Lib.hid hd
    have HP := Lib.hid hp
    have HI := Lib.hid hi
    have HIV := Lib.hid hiv
    clear hd hp hiv
    by_cases hlt : i < n1
    · by_cases h50 : i = 50
      · have c50 : decide ((i : Int) = 50) = true := decide_eq_true (by omega)
        have c50' : ((i : Int) == 50) = true := beq_iff_eq.2 (by omega)
        obtain ⟨b, off, p, rfl, _, hp, hc⟩ := HA.out.one hlt
        have hcell := hc _ HD.out.k
        have g0 : (0 : Int) ≤ (i : Int) := Int.natCast_nonneg _
        have g1 : (i : Int) < (n1 : Int) := by omega
        clear hlt h50 hi hp hc
        have hs := HIV.out
        have hend := HP.out.end_
        obtain ⟨m, hm⟩ : ∃ m, toldN e sum = m := ⟨_, rfl⟩
        have hm1 : m ≤ 1 := by rw [← hm]; unfold toldN; split <;> omega
        rw [hm] at hend
        have CT := Lib.hid (duo_tick HD.out.swap sum (E := 0) (k := sum) (m := m) (zs := tickZ 0 [⟨3, e, e⟩] sum) (l2 := [⟨3, e, nextD e e sum⟩]) (tickE_ok (by unfold maxT; omega)) (by rw [tickC_ok (by unfold maxT; omega)]; omega) rfl (by rw [one_told 3 e e 0 sum (by unfold maxT; omega), Nat.zero_add]; exact hm) (by rw [one_left 3 e e 0 sum (by unfold maxT; omega), Nat.zero_add]) (by omega))
        have x1 : decide ((m : Int) ≤ 1) = true := decide_eq_true (by omega)
        have x1' : decide (m ≤ 1) = true := decide_eq_true (by omega)
        have x2 : decide ((m : Int) ≤ (n : Int)) = true := decide_eq_true (by omega)
        have x2' : decide (m ≤ n) = true := decide_eq_true (by omega)
        obtain ⟨z, hz⟩ : ∃ z : Bool, decide ((0 : Int) < (n : Int)) = z := ⟨_, rfl⟩
        have hz2 : decide ((0 : Int) < (m : Int)) = z := by rw [← hz]; exact decide_eq_decide.2 (by omega)
        have hz' : decide (0 < n) = z := by rw [← hz]; exact decide_eq_decide.2 (by omega)
        have hz2' : decide (0 < m) = z := by rw [← hz]; exact decide_eq_decide.2 (by omega)
        have hzz : (z == z) = true := by simp
        clear hend hm hm1 hs
        go_wp2_with fail
        refine CT.out.mono ?_
        rintro r v5 ⟨A5, c5, rfl, -, t, -⟩
        have T5 := Lib.hid t
        clear t
        go_wp2_with fail
        refine (tnow T5.out.b).mono ?_
        rintro r v6 ⟨rfl, rfl⟩
        go_wp2_with fail
        refine (tnow T5.out.a).mono ?_
        rintro r v6 ⟨rfl, rfl⟩
        go_wp2_with fail
        go_ret
        exact ⟨rfl, T5.out.k⟩
      · have c50 : decide ((i : Int) = 50) = false := decide_eq_false (by omega)
        have c50' : ((i : Int) == 50) = false := beq_eq_false_iff_ne.2 (by omega)
        obtain ⟨b, off, p, rfl, _, hp, hc⟩ := HA.out.one hlt
        have hcell := hc _ HD.out.k
        have hpl := HL.out p (List.mem_of_getElem? hp)
        have g0 : (0 : Int) ≤ (i : Int) := Int.natCast_nonneg _
        have g1 : (i : Int) < (n1 : Int) := by omega
        have hs := HIV.out
        obtain ⟨q, hq⟩ : ∃ q, p % 1048576 = q := ⟨_, rfl⟩
        have hq2 : q < 1048576 := by rw [← hq]; exact Nat.mod_lt _ (by decide)
        have r1 : (p : Int) % 1048576 = (q : Int) := by omega
        have r2 : Int.tmod (p : Int) 1048576 = (q : Int) := by rw [Int.tmod_eq_emod_of_nonneg (Int.natCast_nonneg _)]; exact r1
        have r3 : IntKind.u32.wrap (q : Int) = (q : Int) := IntWalk.u32_in _ (by omega)
        have r4 : IntKind.u64.wrap (q : Int) = (q : Int) := IntWalk.u64_in _ (by omega)
        obtain ⟨s2, hs2⟩ : ∃ s2, sum + q = s2 := ⟨_, rfl⟩
        have r5 : IntKind.u64.wrap ((sum : Int) + (q : Int)) = (s2 : Int) := by rw [IntWalk.u64_in _ (by omega)]; omega
        obtain ⟨m, hm⟩ : ∃ m, toldN d s2 = m := ⟨_, rfl⟩
        have hm1 : m ≤ 1 := by rw [← hm]; unfold toldN; split <;> omega
        obtain ⟨n2, hn2⟩ : ∃ n2, n + m = n2 := ⟨_, rfl⟩
        have r6 : IntKind.i64.wrap ((n : Int) + (m : Int)) = (n2 : Int) := by rw [IntWalk.i64_in _ (by omega)]; omega
        have CT := Lib.hid (duo_tick HD.out q (E := 0) (k := s2) (m := m) (zs := tickZ sum [⟨3, e, d⟩] q) (l2 := [⟨3, e, nextD e d s2⟩]) (tickE_ok (by unfold maxT; omega)) (by rw [tickC_ok (by unfold maxT; omega)]; exact hs2) rfl (by rw [one_told 3 e d sum q (by unfold maxT; omega), hs2]; exact hm) (by rw [one_left 3 e d sum q (by unfold maxT; omega), hs2]) (by omega))
        have HP2 : Hid (PartI e s2 (nextD e d s2) n2) := Lib.hid (by have := HP.out.tick (p := q) HE.out.1; rw [hs2, hm, hn2] at this; exact this)
        have HI2 : Hid (i + 1 ≤ 50 ∧ s2 ≤ (i + 1) * 1048576 ∧ n2 ≤ i + 1) := Lib.hid (by omega)
        have HLT := Lib.hid hlt
        have rw1 : IntKind.i64.wrap ((i : Int) + 1) = (i : Int) + 1 := IntWalk.i64_in _ (by omega)
        clear hlt h50 hi hp hc hpl hq hq2 hs hs2 hm hm1 hn2
        go_wp2_with fail
        refine CT.out.mono ?_
        rintro r v5 ⟨A5, c5, rfl, -, t, -⟩
        have T5 := Lib.hid t
        clear t
        go_wp2_with fail
        go_roundw
        case rel => exact ⟨n2, s2, i + 1, nextD e d s2, rfl, rfl, by go_num, T5.out, HP2.out, HLT.out, HI2.out⟩
        case measure => simp [intOf]; have := HLT.out; omega
    · have g1 : ¬ (i : Int) < (n1 : Int) := by omega
      clear hlt hi
      have hs := HIV.out
      have hend := HP.out.end_
      obtain ⟨m, hm⟩ : ∃ m, toldN e sum = m := ⟨_, rfl⟩
      have hm1 : m ≤ 1 := by rw [← hm]; unfold toldN; split <;> omega
      rw [hm] at hend
      have CT := Lib.hid (duo_tick HD.out.swap sum (E := 0) (k := sum) (m := m) (zs := tickZ 0 [⟨3, e, e⟩] sum) (l2 := [⟨3, e, nextD e e sum⟩]) (tickE_ok (by unfold maxT; omega)) (by rw [tickC_ok (by unfold maxT; omega)]; omega) rfl (by rw [one_told 3 e e 0 sum (by unfold maxT; omega), Nat.zero_add]; exact hm) (by rw [one_left 3 e e 0 sum (by unfold maxT; omega), Nat.zero_add]) (by omega))
      have x1 : decide ((m : Int) ≤ 1) = true := decide_eq_true (by omega)
      have x1' : decide (m ≤ 1) = true := decide_eq_true (by omega)
      have x2 : decide ((m : Int) ≤ (n : Int)) = true := decide_eq_true (by omega)
      have x2' : decide (m ≤ n) = true := decide_eq_true (by omega)
      obtain ⟨z, hz⟩ : ∃ z : Bool, decide ((0 : Int) < (n : Int)) = z := ⟨_, rfl⟩
      have hz2 : decide ((0 : Int) < (m : Int)) = z := by rw [← hz]; exact decide_eq_decide.2 (by omega)
      have hz' : decide (0 < n) = z := by rw [← hz]; exact decide_eq_decide.2 (by omega)
      have hz2' : decide (0 < m) = z := by rw [← hz]; exact decide_eq_decide.2 (by omega)
      have hzz : (z == z) = true := by simp
      clear hend hm hm1 hs
      go_wp2_with fail
      refine CT.out.mono ?_
      rintro r v5 ⟨A5, c5, rfl, -, t, -⟩
      have T5 := Lib.hid t
      clear t
      go_wp2_with fail
      refine (tnow T5.out.b).mono ?_
      rintro r v6 ⟨rfl, rfl⟩
      go_wp2_with fail
      refine (tnow T5.out.a).mono ?_
      rintro r v6 ⟨rfl, rfl⟩
      go_wp2_with fail
      go_ret
      exact ⟨rfl, T5.out.k⟩
end Go.Proofs.Ytjjoieahodfikaa
