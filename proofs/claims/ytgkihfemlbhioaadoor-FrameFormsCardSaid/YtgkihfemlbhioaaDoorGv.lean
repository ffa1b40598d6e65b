/- The landed frames: may it be: numbers, ranks, topologies. -/
import Derived.Test.YtgkihfemlbhioaaDoorGl
import Derived.Test.YtgkihfemlbhioaaDoorFrp
namespace Go.Proofs.YtgkihfemlbhioaaDoor
open Go.RowKit Fr
set_option linter.unusedVariables false
set_option linter.unusedSimpArgs false
theorem gin_any (n a b : Int) (w : World) : Calls Tryd.prog 54 #[.int .i64 n, .int .i64 a, .int .i64 b] w fun e w' => e = .returned (.bool (decide (a ≤ n ∧ n ≤ b))) ∧ w = w' := by
  by_cases h1 : a ≤ n
  · have d1 : decide (a ≤ n) = true := decide_eq_true h1
    obtain ⟨q, hq⟩ : ∃ q, decide (n ≤ b) = q := ⟨_, rfl⟩
    have HR : Hid (decide (a ≤ n ∧ n ≤ b) = q) := by show _ = _; rw [← hq, Bool.decide_and, d1, Bool.true_and]
    clear h1
    go_enter Tryd.func54, Tryd.ntmps54
    go_wp2_with fail
    go_ret
    exact ⟨by rw [HR.out]; rfl, rfl⟩
  · have d1 : decide (a ≤ n) = false := decide_eq_false h1
    have HR : Hid (decide (a ≤ n ∧ n ≤ b) = false) := decide_eq_false fun e => h1 e.1
    clear h1
    go_enter Tryd.func54, Tryd.ntmps54
    go_wp2_with fail
    go_ret
    exact ⟨by rw [HR.out]; rfl, rfl⟩
theorem ginu_any (n a b : Int) (w : World) : Calls Tryd.prog 72 #[.int .u64 n, .int .u64 a, .int .u64 b] w fun e w' => e = .returned (.bool (decide (a ≤ n ∧ n ≤ b))) ∧ w = w' := by
  by_cases h1 : a ≤ n
  · have d1 : decide (a ≤ n) = true := decide_eq_true h1
    obtain ⟨q, hq⟩ : ∃ q, decide (n ≤ b) = q := ⟨_, rfl⟩
    have HR : Hid (decide (a ≤ n ∧ n ≤ b) = q) := by show _ = _; rw [← hq, Bool.decide_and, d1, Bool.true_and]
    clear h1
    go_enter Tryd.func72, Tryd.ntmps72
    go_wp2_with fail
    go_ret
    exact ⟨by rw [HR.out]; rfl, rfl⟩
  · have d1 : decide (a ≤ n) = false := decide_eq_false h1
    have HR : Hid (decide (a ≤ n ∧ n ≤ b) = false) := decide_eq_false fun e => h1 e.1
    clear h1
    go_enter Tryd.func72, Tryd.ntmps72
    go_wp2_with fail
    go_ret
    exact ⟨by rw [HR.out]; rfl, rfl⟩
theorem gcount_any (n : Nat) (w : World) : Calls Tryd.prog 55 #[.int .u64 (n : Int)] w fun e w' => e = .returned (.bool (decide (1 ≤ n ∧ n ≤ 1125899906842624))) ∧ w = w' := by
  have H := Lib.hid (ginu_any (n : Int) 1 1125899906842624)
  obtain ⟨q, hq⟩ : ∃ q, decide (1 ≤ n ∧ n ≤ 1125899906842624) = q := ⟨_, rfl⟩
  have e : decide ((1 : Int) ≤ (n : Int) ∧ (n : Int) ≤ 1125899906842624) = q := by rw [← hq, decide_eq_decide]; omega
  rw [hq]
  rw [e] at H
  clear hq e
  go_enter Tryd.func55, Tryd.ntmps55
  go_wp2_with fail
  refine (H.out _).mono ?_
  rintro e w2 ⟨rfl, rfl⟩
  go_wp2_with fail
  go_ret
  exact ⟨rfl, rfl⟩
theorem gflow_any (n : Int) (w : World) : Calls Tryd.prog 56 #[.int .i64 n] w fun e w' => e = .returned (.bool (decide (0 ≤ n ∧ n ≤ 3))) ∧ w = w' := by
  have H := Lib.hid (gin_any n 0 3)
  obtain ⟨q, hq⟩ : ∃ q, decide (0 ≤ n ∧ n ≤ 3) = q := ⟨_, rfl⟩
  rw [hq] at H ⊢
  clear hq
  go_enter Tryd.func56, Tryd.ntmps56
  go_wp2_with fail
  refine (H.out _).mono ?_
  rintro e w2 ⟨rfl, rfl⟩
  go_wp2_with fail
  go_ret
  exact ⟨rfl, rfl⟩
set_option maxRecDepth 100000 in
theorem grow_any (nc cc np cp : Nat) (Ac Ap : Option Addr) (w : World) : Calls Tryd.prog 57 #[.agg #[.slice Ac nc cc, .slice Ap np cp]] w fun e w' => e = .returned (.bool (decide ((1 ≤ nc ∧ nc ≤ 255) ∧ 1 ≤ np ∧ np ≤ 65535))) ∧ Keep w w' := by
  have H1 := Lib.hid (gin_any (nc : Int) 1 255)
  have H2 := Lib.hid (gin_any (np : Int) 1 65535)
  have e1 : decide ((1 : Int) ≤ (nc : Int) ∧ (nc : Int) ≤ 255) = decide (1 ≤ nc ∧ nc ≤ 255) := by rw [decide_eq_decide]; omega
  have e2 : decide ((1 : Int) ≤ (np : Int) ∧ (np : Int) ≤ 65535) = decide (1 ≤ np ∧ np ≤ 65535) := by rw [decide_eq_decide]; omega
  rw [e1] at H1
  rw [e2] at H2
  rw [Bool.decide_and]
  obtain ⟨a, ha⟩ : ∃ a, decide (1 ≤ nc ∧ nc ≤ 255) = a := ⟨_, rfl⟩
  obtain ⟨b, hb⟩ : ∃ a, decide (1 ≤ np ∧ np ≤ 65535) = a := ⟨_, rfl⟩
  rw [ha] at H1 ⊢
  rw [hb] at H2 ⊢
  clear ha hb e1 e2
  go_enter Tryd.func57, Tryd.ntmps57
  go_wp2_with fail
  refine (H1.out _).mono ?_
  rintro e w2 ⟨rfl, rfl⟩
  cases a with
  | false =>
    go_wp2_with fail
    go_ret
    exact ⟨rfl, (Keep.refl w).alloc _ _⟩
  | true =>
    go_wp2_with fail
    refine (H2.out _).mono ?_
    rintro e w3 ⟨rfl, rfl⟩
    go_wp2_with fail
    go_ret
    exact ⟨rfl, (Keep.refl w).alloc _ _⟩
end Go.Proofs.YtgkihfemlbhioaaDoor
/- The landed frames: may ranks be, may a topology be. -/
namespace Go.Proofs.YtgkihfemlbhioaaDoor
open Go.RowKit Fr
set_option linter.unusedVariables false
set_option linter.unusedSimpArgs false
theorem run_leastU (a b m : Nat) (A B : Int) (hA : A = (a : Int)) (hB : B = (b : Int)) (h : min a b = m) (w : World) : (Builtin.min_ #[22, 22] 22 #[.int .u64 A, .int .u64 B]).run Tryd.prog w = .ok (.int .u64 (m : Int)) w := by
  subst hA hB
  rw [run_min_int2]; congr 2; split <;> omega
set_option maxRecDepth 100000 in
set_option maxHeartbeats 4000000 in
theorem granks_any (B n c g : Nat) (A : Option Addr) (l : List (Nat × Int)) (w : World) (h : RanksAt w B A n l) (hB : B ≤ w.heap.size) (hn : n ≤ 140737488351232) (hg : g ≤ 1099511627776) (hb : ∀ r ∈ l, U64 r.1 ∧ I64 r.2) :
    Calls Tryd.prog 58 #[.int .u64 (g : Int), .slice A n c] w fun e w' => e = .returned (.bool (decide (RankOk g none l))) ∧ Keep w w' := by
  have l1 := h.length
  have H := Lib.hid h
  have HBD := Lib.hid hb
  obtain ⟨q, hq⟩ : ∃ q, decide (RankOk g none l) = q := ⟨_, rfl⟩
  rw [hq]
  have QN : Hid (¬ RankOk g none l → q = false) := fun e => by rw [← hq]; exact decide_eq_false e
  have QY : Hid (RankOk g none l → q = true) := fun e => by rw [← hq]; exact decide_eq_true e
  clear hq h hb
  by_cases h16 : n ≤ 16
  · have b1 : ¬ (16 : Int) < (n : Int) := by omega
    have b2 : IntKind.u64.wrap ((g : Int) + 16) = ((g + 16 : Nat) : Int) := by rw [IntWalk.u64_in _ (by omega)]; omega
    obtain ⟨en, hen⟩ : ∃ en : Nat, min (g + 16) 1099511627776 = en := ⟨_, rfl⟩
    have HEN : Hid (en ≤ g + 16 ∧ en ≤ 1099511627776 ∧ (en = g + 16 ∨ en = 1099511627776)) := by show _ ∧ _; omega
    have b3 := fun w => run_leastU (g + 16) 1099511627776 en ((g + 16 : Nat) : Int) 1099511627776 rfl rfl hen w
    obtain ⟨gq, hgq⟩ : ∃ gq : Int, ((g + 16 : Nat) : Int) = gq := ⟨_, rfl⟩
    rw [hgq] at b2 b3
    clear hen hgq
    go_enter Tryd.func58, Tryd.ntmps58
    go_wp2_with fail
    go_loopw [5, 18] (fun sv iv wr => ∃ (i le : Nat), i ≤ n ∧ iv = .int .i64 i ∧ sv = .int .u64 le ∧ g ≤ le ∧ le ≤ 1099511627776 ∧ (∀ j r, j < i → l[j]? = some r → RkB g r ∧ ∀ x, 0 < j → l[j - 1]? = some x → x.1 < r.1) ∧ (i = 0 → le = g) ∧ (∀ x, 0 < i → l[i - 1]? = some x → le = x.1 + 1) ∧ Keep w wr) (fun _ iv _ => n - (intOf iv).toNat)
    case atStart => exact ⟨0, g, by omega, rfl, rfl, by omega, hg, fun j r hj => by omega, fun _ => rfl, fun x hx => by omega, Keep.refl w⟩
    case round =>
      obtain ⟨i, le, hi, rfl, rfl, hle, hle2, hz, hs0, hs1, kp⟩ := hrel
      have HZ := Lib.hid hz
      have HS0 := Lib.hid hs0
      have HS1 := Lib.hid hs1
      have KP := Lib.hid kp
      have f1 : (0 : Int) ≤ (i : Int) := Int.natCast_nonneg _
      clear hz hs0 hs1
      by_cases hlt : i < n
      · have f2 : (i : Int) < (n : Int) := by omega
        obtain ⟨⟨rg, rr⟩, he⟩ := get_some l1 hlt
        obtain ⟨p, o, rfl, _, s1, s2⟩ := (H.out.keep hB kp).at_ he
        dsimp only at s1 s2
        have s2 : wr.cell? ⟨p, o + i * 2 + 1, none⟩ = some (.int .i64 rr) := s2
        have hbd := (HBD.out (rg, rr) (List.mem_of_getElem? he)).1
        unfold U64 at hbd
        dsimp only at hbd
        obtain ⟨w7, hw7⟩ : ∃ w7, wr.alloc (.cells #[.int .u64 (rg : Int), .int .i64 rr] 53) = w7 := ⟨_, rfl⟩
        obtain ⟨k7, m0, m1⟩ := two_box wr _ _ _ hw7
        obtain ⟨g7, hg7⟩ : ∃ g7, wr.heap.size = g7 := ⟨_, rfl⟩
        rw [hg7] at m0 m1
        have K7 : Hid (Keep w w7) := KP.out.trans k7
        have HE := Lib.hid he
        have HBAD : Hid (¬ (RkB g (rg, rr) ∧ ∀ x, 0 < i → l[i - 1]? = some x → x.1 < rg) → q = false) := fun e => QN.out fun hr => e ((ranks_iff g l).1 hr i (rg, rr) HE.out)
        have H5 := Lib.hid (gin_any rr 1 255)
        clear kp k7 he
        by_cases c1 : rg < le
        · have HN : Hid (q = false) := HBAD.out fun e => by
            rcases Nat.eq_zero_or_pos i with h0 | h0
            · have := HS0.out h0; have := e.1.1; dsimp only at this; omega
            · obtain ⟨x, hx⟩ := get_some (n := n) (i := i - 1) l1 (by omega)
              have h1 := HS1.out x h0 hx
              have h2 := e.2 x h0 hx
              omega
          have d1 : (rg : Int) < (le : Int) := by omega
          clear c1
          go_wp2_with fail
          go_ret
          exact ⟨by rw [HN.out]; rfl, K7.out⟩
        have d1 : ¬ (rg : Int) < (le : Int) := by omega
        by_cases c2 : en ≤ rg
        · have HN : Hid (q = false) := HBAD.out fun e => by
            have h1 := e.1.2.1
            have h2 := e.1.2.2.1
            dsimp only at h1 h2
            have := HEN.out
            omega
          have d2 : (en : Int) ≤ (rg : Int) := by omega
          clear c1 c2
          go_wp2_with fail
          go_ret
          exact ⟨by rw [HN.out]; rfl, K7.out⟩
        have d2 : ¬ (en : Int) ≤ (rg : Int) := by omega
        have hen := HEN.out
        by_cases c3 : 1 ≤ rr ∧ rr ≤ 255
        · have d3 : IntKind.u64.wrap ((rg : Int) + 1) = ((rg + 1 : Nat) : Int) := by rw [IntWalk.u64_in _ (by omega)]; omega
          rw [decide_eq_true c3] at H5
          have HZ2 : Hid (∀ j r, j < i + 1 → l[j]? = some r → RkB g r ∧ ∀ x, 0 < j → l[j - 1]? = some x → x.1 < r.1) := fun j r hj hjr => by
            rcases Nat.lt_or_ge j i with h1 | h1
            · exact HZ.out j r h1 hjr
            · obtain rfl : j = i := by omega
              have he := HE.out
              rw [he] at hjr
              injection hjr with hjr
              subst hjr
              refine ⟨⟨show g ≤ rg by omega, show rg < g + 16 by omega, show rg < 1099511627776 by omega, c3.1, c3.2⟩, fun x h0 hx => ?_⟩
              have := HS1.out x h0 hx
              show x.1 < rg
              omega
          have HSN : Hid (∀ x, 0 < i + 1 → l[i + 1 - 1]? = some x → rg + 1 = x.1 + 1) := fun x _ hx => by
            rw [Nat.add_sub_cancel, HE.out] at hx
            injection hx with hx
            rw [← hx]
          have hrl : g ≤ rg + 1 ∧ rg + 1 ≤ 1099511627776 := by omega
          clear c1 c2 c3 hen
          go_wp2_with fail
          refine (H5.out _).mono ?_
          rintro e w8 ⟨rfl, rfl⟩
          go_wp2_with fail
          go_roundw
          case rel => exact ⟨i + 1, rg + 1, by omega, by go_num, by first | rfl | go_num, hrl.1, hrl.2, HZ2.out, fun h0 => by omega, HSN.out, K7.out⟩
          case measure => simp [intOf]; omega
        · have HN : Hid (q = false) := HBAD.out fun e => c3 ⟨e.1.2.2.2.1, e.1.2.2.2.2⟩
          rw [decide_eq_false c3] at H5
          clear c1 c2 c3 hen
          go_wp2_with fail
          refine (H5.out _).mono ?_
          rintro e w8 ⟨rfl, rfl⟩
          go_wp2_with fail
          go_ret
          exact ⟨by rw [HN.out]; rfl, K7.out⟩
      · obtain rfl : i = n := by omega
        have HY : Hid (q = true) := QY.out ((ranks_iff g l).2 fun j r hjr => HZ.out j r (by
          rcases Nat.lt_or_ge j l.length with h1 | h1
          · omega
          · rw [List.getElem?_eq_none h1] at hjr; cases hjr) hjr)
        go_wp2_with fail
        go_ret
        exact ⟨by rw [HY.out]; rfl, KP.out⟩
  · have b1 : (16 : Int) < (n : Int) := by omega
    have HN : Hid (q = false) := QN.out fun e => by have := rank_few g l e; omega
    clear h16
    go_enter Tryd.func58, Tryd.ntmps58
    go_wp2_with fail
    go_ret
    exact ⟨by rw [HN.out]; rfl, Keep.refl _⟩
end Go.Proofs.YtgkihfemlbhioaaDoor
/- The landed frames: may a topology be. -/
namespace Go.Proofs.YtgkihfemlbhioaaDoor
open Go.RowKit Fr
set_option linter.unusedVariables false
set_option linter.unusedSimpArgs false
set_option maxRecDepth 100000 in
set_option maxHeartbeats 4000000 in
theorem gwrong_any (N gl : Nat) (ea eb : Int) (w : World) (hN : 1 ≤ N) (hN2 : N ≤ 64) (hc : w.cell? ⟨gl, 0, none⟩ = some (.int .i64 ((N - 1 : Nat) : Int))) :
    Calls Tryd.prog 73 #[.agg #[.int .i64 ea, .int .i64 eb], .pointer (some ⟨gl, 0, none⟩)] w fun e w' => e = .returned (.bool (decide (¬ EdgeOk N (ea, eb)))) ∧ Keep w w' := by
  have hlt : gl < w.heap.size := World.block_lt_of_cell? w _ hc
  obtain ⟨w2, hw2⟩ : ∃ w2, w.alloc (.cells #[.int .i64 ea, .int .i64 eb] 57) = w2 := ⟨_, rfl⟩
  obtain ⟨k2, m0, m1⟩ := two_box w _ _ _ hw2
  have c2 : w2.cell? ⟨gl, 0, none⟩ = some (.int .i64 ((N - 1 : Nat) : Int)) := (World.cell?_of_block (k2.block gl hlt)).trans hc
  obtain ⟨g2, hg2⟩ : ∃ g2, w.heap.size = g2 := ⟨_, rfl⟩
  rw [hg2] at m0 m1
  have H1 := Lib.hid (gin_any ea 0 ((N - 1 : Nat) : Int))
  have H2 := Lib.hid (gin_any eb 0 ((N - 1 : Nat) : Int))
  obtain ⟨q, hq⟩ : ∃ q, decide (¬ EdgeOk N (ea, eb)) = q := ⟨_, rfl⟩
  rw [hq]
  have QT : Hid (¬ EdgeOk N (ea, eb) → q = true) := fun e => by rw [← hq]; exact decide_eq_true e
  have QF : Hid (EdgeOk N (ea, eb) → q = false) := fun e => by rw [← hq]; exact decide_eq_false (fun h => h e)
  have K2 := Lib.hid k2
  obtain ⟨la, hla⟩ : ∃ la : Int, ((N - 1 : Nat) : Int) = la := ⟨_, rfl⟩
  rw [hla] at c2 H1 H2
  have HLA : Hid (la = (N : Int) - 1) := by show _ = _; omega
  clear hq hc k2 hlt hla
  by_cases c1 : 0 ≤ ea ∧ ea ≤ la
  · rw [decide_eq_true c1] at H1
    by_cases c3 : 0 ≤ eb ∧ eb ≤ la
    · rw [decide_eq_true c3] at H2
      obtain ⟨v, hv⟩ : ∃ v, (ea == eb) = v := ⟨_, rfl⟩
      have HV : Hid (q = v) := by
        have e1 := HLA.out
        by_cases h : ea = eb
        · have hv2 : v = true := by rw [← hv]; simp [h]
          rw [hv2]
          exact QT.out fun e => e.2.2.2.2 h
        · have hv2 : v = false := by rw [← hv]; exact beq_eq_false_iff_ne.2 h
          rw [hv2]
          exact QF.out ⟨c1.1, show ea < (N : Int) by omega, c3.1, show eb < (N : Int) by omega, h⟩
      clear c1 c3
      go_enter Tryd.func73, Tryd.ntmps73
      go_wp2_with fail
      refine (H1.out _).mono ?_
      rintro e w3 ⟨rfl, rfl⟩
      go_wp2_with fail
      refine (H2.out _).mono ?_
      rintro e w3 ⟨rfl, rfl⟩
      go_wp2_with fail
      go_ret
      exact ⟨by rw [HV.out]; rfl, K2.out⟩
    · have HT : Hid (q = true) := QT.out fun e => c3 ⟨e.2.2.1, by have := e.2.2.2.1; have := HLA.out; dsimp only at *; omega⟩
      rw [decide_eq_false c3] at H2
      clear c1 c3
      go_enter Tryd.func73, Tryd.ntmps73
      go_wp2_with fail
      refine (H1.out _).mono ?_
      rintro e w3 ⟨rfl, rfl⟩
      go_wp2_with fail
      refine (H2.out _).mono ?_
      rintro e w3 ⟨rfl, rfl⟩
      go_wp2_with fail
      go_ret
      exact ⟨by rw [HT.out]; rfl, K2.out⟩
  · have HT : Hid (q = true) := QT.out fun e => c1 ⟨e.1, by have := e.2.1; have := HLA.out; dsimp only at *; omega⟩
    rw [decide_eq_false c1] at H1
    clear c1
    go_enter Tryd.func73, Tryd.ntmps73
    go_wp2_with fail
    refine (H1.out _).mono ?_
    rintro e w3 ⟨rfl, rfl⟩
    go_wp2_with fail
    go_ret
    exact ⟨by rw [HT.out]; rfl, K2.out⟩
set_option maxRecDepth 100000 in
set_option maxHeartbeats 4000000 in
theorem gindex_any (B N gl n c : Nat) (A : Option Addr) (r : List (Int × Int)) (w : World) (h : EdgesAt w B A n r) (hB : B ≤ w.heap.size) (hN : 1 ≤ N) (hN2 : N ≤ 64) (hn : n ≤ 140737488351232) (hc : w.cell? ⟨gl, 0, none⟩ = some (.int .i64 ((N - 1 : Nat) : Int))) :
    Calls Tryd.prog 78 #[.slice A n c, .func (.func 73) #[] #[.pointer (some ⟨gl, 0, none⟩)]] w fun e w' => ∃ v : Int, e = .returned (.int .i64 v) ∧ (v < 0 ↔ ∀ e ∈ r, EdgeOk N e) ∧ Keep w w' := by
  have l1 := h.length
  have H := Lib.hid h
  have hlt : gl < w.heap.size := World.block_lt_of_cell? w _ hc
  have HCW : Hid (∀ wr, Keep w wr → ∀ ea eb, Calls Tryd.prog 73 #[.agg #[.int .i64 ea, .int .i64 eb], .pointer (some ⟨gl, 0, none⟩)] wr fun e w' => e = .returned (.bool (decide (¬ EdgeOk N (ea, eb)))) ∧ Keep wr w') := fun wr kr ea eb =>
    gwrong_any N gl ea eb wr hN hN2 ((World.cell?_of_block (kr.block gl hlt)).trans hc)
  clear h hc hlt
  go_enter Tryd.func78, Tryd.ntmps78
  go_wp2_with fail
  go_loopw [8] (fun iv wr => ∃ i : Nat, i ≤ n ∧ iv = .int .i64 i ∧ Keep w wr ∧ ∀ j e, j < i → r[j]? = some e → EdgeOk N e) (fun iv _ => n - (intOf iv).toNat)
  case atStart => exact ⟨0, by omega, rfl, Keep.refl w, fun j e hj => by omega⟩
  case round =>
    obtain ⟨i, hi, rfl, kp, hz⟩ := hrel
    have HZ := Lib.hid hz
    have KP := Lib.hid kp
    have f1 : (0 : Int) ≤ (i : Int) := Int.natCast_nonneg _
    clear hz
    by_cases hl : i < n
    · have f2 : (i : Int) < (n : Int) := by omega
      obtain ⟨⟨ea, eb⟩, he⟩ := get_some l1 hl
      obtain ⟨p, o, rfl, _, s1, s2⟩ := (H.out.keep hB kp).at_ he
      dsimp only at s1 s2
      have s2 : wr.cell? ⟨p, o + i * 2 + 1, none⟩ = some (.int .i64 eb) := s2
      have HC := Lib.hid (HCW.out wr kp ea eb)
      by_cases ok : EdgeOk N (ea, eb)
      · rw [decide_eq_false (fun h => h ok)] at HC
        have HS : Hid (∀ j e, j < i + 1 → r[j]? = some e → EdgeOk N e) := fun j e hj hje => by
          rcases Nat.lt_or_ge j i with h1 | h1
          · exact HZ.out j e h1 hje
          · obtain rfl : j = i := by omega
            rw [he] at hje
            injection hje with hje
            subst hje
            exact ok
        clear kp he ok
        go_wp2_with fail
        refine HC.out.mono ?_
        rintro e w2 ⟨rfl, k2⟩
        have K2 : Hid (Keep w w2) := KP.out.trans k2
        clear k2
        go_wp2_with fail
        go_roundw
        case rel => exact ⟨i + 1, by omega, by go_num, K2.out, HS.out⟩
        case measure => simp [intOf]; omega
      · rw [decide_eq_true ok] at HC
        have HF : Hid (¬ ∀ e ∈ r, EdgeOk N e) := fun h => ok (h _ (List.mem_of_getElem? he))
        clear kp he ok
        go_wp2_with fail
        refine HC.out.mono ?_
        rintro e w2 ⟨rfl, k2⟩
        have K2 : Hid (Keep w w2) := KP.out.trans k2
        clear k2
        go_wp2_with fail
        go_ret
        exact ⟨(i : Int), rfl, ⟨fun h => by omega, fun h => absurd h HF.out⟩, K2.out⟩
    · obtain rfl : i = n := by omega
      have HA : Hid (∀ e ∈ r, EdgeOk N e) := fun e he => by
        obtain ⟨x, hx, rfl⟩ := List.mem_iff_getElem.1 he
        exact HZ.out x _ (by omega) (List.getElem?_eq_getElem hx)
      clear kp
      go_wp2_with fail
      go_ret
      exact ⟨-1, rfl, ⟨fun _ => HA.out, fun _ => by decide⟩, KP.out⟩
theorem gcontains_any (B N gl n c : Nat) (A : Option Addr) (r : List (Int × Int)) (w : World) (h : EdgesAt w B A n r) (hB : B ≤ w.heap.size) (hN : 1 ≤ N) (hN2 : N ≤ 64) (hn : n ≤ 140737488351232) (hc : w.cell? ⟨gl, 0, none⟩ = some (.int .i64 ((N - 1 : Nat) : Int))) :
    Calls Tryd.prog 74 #[.slice A n c, .func (.func 73) #[] #[.pointer (some ⟨gl, 0, none⟩)]] w fun e w' => ∃ q : Bool, e = .returned (.bool q) ∧ (q = false ↔ ∀ e ∈ r, EdgeOk N e) ∧ Keep w w' := by
  have HI := Lib.hid (gindex_any B N gl n c A r w h hB hN hN2 hn hc)
  clear h hc
  go_enter Tryd.func74, Tryd.ntmps74
  go_wp2_with fail
  refine HI.out.mono ?_
  rintro e w2 ⟨v, rfl, hv, k2⟩
  have HV := Lib.hid hv
  have K2 := Lib.hid k2
  clear hv k2
  go_wp2_with fail
  go_ret
  exact ⟨_, rfl, by rw [← HV.out]; simp, K2.out⟩
end Go.Proofs.YtgkihfemlbhioaaDoor
/- The landed frames: mayTopo. -/
namespace Go.Proofs.YtgkihfemlbhioaaDoor
open Go.RowKit Fr
set_option linter.unusedVariables false
set_option linter.unusedSimpArgs false
set_option maxRecDepth 100000 in
set_option maxHeartbeats 4000000 in
theorem gmayto_any (te : Nat) (u h : SlV) (up : List Bool) (hp : List (List (Int × Int))) (w : World) (hU : UpsAt w w.heap.size u.A u.n up) (hH : HopsAt w w.heap.size h.A h.n hp) (ok1 : u.ok) (ok2 : h.ok) :
    Calls Tryd.prog 59 #[.agg (topoCells te u h)] w fun e w' => e = .returned (.bool (decide (TopoOk te up hp))) ∧ Keep w w' := by
  obtain ⟨Au, nu, cu⟩ := u
  obtain ⟨Ah, nh, ch⟩ := h
  obtain ⟨o1, p1⟩ := ok1
  obtain ⟨o2, p2⟩ := ok2
  dsimp only at *
  obtain ⟨w2, hw2⟩ : ∃ w2, w.alloc (.cells (topoCells te ⟨Au, nu, cu⟩ ⟨Ah, nh, ch⟩) 30) = w2 := ⟨_, rfl⟩
  obtain ⟨k2, hbox⟩ := to_box w _ te _ _ hw2
  simp only [topoCells] at hw2
  obtain ⟨g, hg⟩ : ∃ g, w.heap.size = g := ⟨_, rfl⟩
  rw [hg] at hbox
  obtain ⟨x1, x2, x3⟩ := hbox w2 (Keep.refl w2)
  dsimp only at x2 x3
  have K2 := Lib.hid k2
  have HBOX := Lib.hid hbox
  have l1 := hU.length
  have l3 := hH.length
  have HH := Lib.hid hH
  clear k2 hbox hU hH
  simp only [topoCells]
  obtain ⟨q, hq⟩ : ∃ q, decide (TopoOk te up hp) = q := ⟨_, rfl⟩
  rw [hq]
  have QN : Hid (¬ TopoOk te up hp → q = false) := fun e => by rw [← hq]; exact decide_eq_false e
  have QY : Hid (TopoOk te up hp → q = true) := fun e => by rw [← hq]; exact decide_eq_true e
  have H1 := Lib.hid (gcount_any te)
  have H2 := Lib.hid (gin_any (nu : Int) 1 64)
  have H3 := Lib.hid (gin_any (nh : Int) 1 4)
  clear hq
  by_cases c1 : 1 ≤ te ∧ te ≤ 1125899906842624
  · rw [decide_eq_true c1] at H1
    by_cases c2 : (1 : Int) ≤ (nu : Int) ∧ (nu : Int) ≤ 64
    · rw [decide_eq_true c2] at H2
      by_cases c3 : (1 : Int) ≤ (nh : Int) ∧ (nh : Int) ≤ 4
      · rw [decide_eq_true c3] at H3
        have a1 : IntKind.i64.wrap ((nu : Int) - 1) = ((nu - 1 : Nat) : Int) := by rw [IntWalk.i64_in _ (by omega)]; omega
        have n1 : 1 ≤ nu ∧ nu ≤ 64 ∧ 1 ≤ nh ∧ nh ≤ 4 := by omega
        obtain ⟨n1, n2, n3, n4⟩ := n1
        have C1 := Lib.hid c1
        obtain ⟨w3, hw3⟩ : ∃ w3, w2.alloc (.cells #[.int .i64 ((nu - 1 : Nat) : Int)] 3) = w3 := ⟨_, rfl⟩
        have k3 : Keep w2 w3 := by rw [← hw3]; exact (Keep.refl w2).alloc _ _
        obtain ⟨g3, hg3⟩ : ∃ g3, w2.heap.size = g3 := ⟨_, rfl⟩
        have cl3 : w3.cell? ⟨g3, 0, none⟩ = some (.int .i64 ((nu - 1 : Nat) : Int)) := by
          have := heap_alloc_new w2 (.cells #[.int .i64 ((nu - 1 : Nat) : Int)] 3)
          rw [hw3, hg3] at this
          exact cell_of_one this
        have hlt3 : g3 < w3.heap.size := World.block_lt_of_cell? w3 _ cl3
        obtain ⟨_, x2', x3'⟩ := HBOX.out w3 k3
        dsimp only at x2' x3'
        have CL3 : Hid (∀ wr, Keep w3 wr → wr.cell? ⟨g3, 0, none⟩ = some (.int .i64 ((nu - 1 : Nat) : Int))) := fun wr kr => (World.cell?_of_block (kr.block g3 hlt3)).trans cl3
        have K3 : Hid (Keep w w3) := K2.out.trans k3
        have K23 := Lib.hid k3
        have HW3 := Lib.hid hw3
        have HG3 := Lib.hid hg3
        obtain ⟨nl, hnl⟩ : ∃ nl : Int, ((nu - 1 : Nat) : Int) = nl := ⟨_, rfl⟩
        have HNL := Lib.hid hnl
        rw [hnl] at a1 hw3
        clear c1 c2 c3 k3 cl3 hlt3 hnl
        go_enter Tryd.func59, Tryd.ntmps59
        go_wp2_with fail
        refine (H1.out _).mono ?_
        rintro e w4 ⟨rfl, rfl⟩
        go_wp2_with fail
        refine (H2.out _).mono ?_
        rintro e w4 ⟨rfl, rfl⟩
        go_wp2_with fail
        refine (H3.out _).mono ?_
        rintro e w4 ⟨rfl, rfl⟩
        go_wp2_with fail
        clear x1 x2 x3 x2' x3' hw3 hg3 a1
        go_loopw [33] (fun iv wr => ∃ i : Nat, i ≤ nh ∧ iv = .int .i64 i ∧ (∀ j l, j < i → hp[j]? = some l → l.length ≤ 128 ∧ ∀ e ∈ l, EdgeOk nu e) ∧ Keep w3 wr) (fun iv _ => nh - (intOf iv).toNat)
        case atStart => exact ⟨0, by omega, rfl, fun j l hj => by omega, by first | exact Keep.refl w3 | (rw [← HW3.out, HNL.out]; exact Keep.refl _)⟩
        case round =>
          obtain ⟨i, hi, rfl, hz, kp⟩ := hrel
          obtain ⟨_, _, x3⟩ := HBOX.out wr (K23.out.trans kp)
          dsimp only at x3
          have HZ := Lib.hid hz
          have KP := Lib.hid kp
          clear hz
          have f1 : (0 : Int) ≤ (i : Int) := Int.natCast_nonneg _
          by_cases hlt : i < nh
          · have f2 : (i : Int) < (nh : Int) := by omega
            obtain ⟨r, hr⟩ := get_some l3 hlt
            obtain ⟨b, off, ⟨As, ns, cs⟩, rfl, hbl, hc, hE, hs1, hs2⟩ := (HH.out.keep (Nat.le_refl _) (K3.out.trans kp)).at_ hr
            dsimp only at hc hE hs1 hs2
            have q1 := hE.length
            have HCN := Lib.hid (gcontains_any w.heap.size nu g3 ns cs As r wr hE (K3.out.trans kp).size n1 n2 hs1 (CL3.out wr kp))
            have KE : Hid (Keep w wr) := K3.out.trans kp
            by_cases hab : ns ≤ 128
            · have b1 : ¬ (128 : Int) < (ns : Int) := by omega
              have HS : Hid ((∀ e ∈ r, EdgeOk nu e) → ∀ j l, j < i + 1 → hp[j]? = some l → l.length ≤ 128 ∧ ∀ e ∈ l, EdgeOk nu e) := fun ha j l hj hjl => by
                rcases Nat.lt_or_ge j i with h1 | h1
                · exact HZ.out j l h1 hjl
                · obtain rfl : j = i := by omega
                  rw [hr] at hjl
                  injection hjl with hjl
                  subst hjl
                  exact ⟨by omega, ha⟩
              have HB : Hid ((¬ ∀ e ∈ r, EdgeOk nu e) → q = false) := fun hn => QN.out fun e => hn (by
                have h2 := (e.2.2.2.2.2.2 r (List.mem_of_getElem? hr)).2
                rw [l1] at h2
                exact h2)
              clear hr hE kp hab
              go_wp2_with fail
              refine HCN.out.mono ?_
              rintro e w5 ⟨v, rfl, hv, k5⟩
              have K5 : Hid (Keep w3 w5) := KP.out.trans k5
              have K5' : Hid (Keep w w5) := KE.out.trans k5
              have HV := Lib.hid hv
              clear hv k5 hc
              cases v with
              | false =>
                have HS2 := Lib.hid (HS.out (HV.out.1 rfl))
                go_wp2_with fail
                go_roundw
                case rel => exact ⟨i + 1, by omega, by go_num, HS2.out, K5.out⟩
                case measure => simp [intOf]; omega
              | true =>
                have HN : Hid (q = false) := HB.out fun h => by cases HV.out.2 h
                go_wp2_with fail
                go_ret
                exact ⟨by rw [HN.out]; rfl, K5'.out⟩
            · have HN : Hid (q = false) := QN.out fun e => by
                have := (e.2.2.2.2.2.2 r (List.mem_of_getElem? hr)).1
                omega
              have b1 : (128 : Int) < (ns : Int) := by omega
              clear hr hE kp hab
              go_wp2_with fail
              go_ret
              exact ⟨by rw [HN.out]; rfl, KE.out⟩
          · obtain rfl : i = nh := by omega
            have HY : Hid (q = true) := QY.out ⟨C1.out.1, C1.out.2, by omega, by omega, by omega, by omega, fun l hl => by
              obtain ⟨x, hx, rfl⟩ := List.mem_iff_getElem.1 hl
              rw [l1]
              exact HZ.out x _ (by omega) (List.getElem?_eq_getElem hx)⟩
            have KE : Hid (Keep w wr) := K3.out.trans kp
            clear kp
            go_wp2_with fail
            go_ret
            exact ⟨by rw [HY.out]; rfl, KE.out⟩
      · rw [decide_eq_false c3] at H3
        have HN : Hid (q = false) := QN.out fun e => c3 (by have h1 := e.2.2.2.2.1; have h2 := e.2.2.2.2.2.1; omega)
        clear c1 c2 c3
        go_enter Tryd.func59, Tryd.ntmps59
        go_wp2_with fail
        refine (H1.out _).mono ?_
        rintro e w4 ⟨rfl, rfl⟩
        go_wp2_with fail
        refine (H2.out _).mono ?_
        rintro e w4 ⟨rfl, rfl⟩
        go_wp2_with fail
        refine (H3.out _).mono ?_
        rintro e w4 ⟨rfl, rfl⟩
        go_wp2_with fail
        go_ret
        exact ⟨by rw [HN.out]; rfl, K2.out⟩
    · rw [decide_eq_false c2] at H2
      have HN : Hid (q = false) := QN.out fun e => c2 (by have h1 := e.2.2.1; have h2 := e.2.2.2.1; omega)
      clear c1 c2
      go_enter Tryd.func59, Tryd.ntmps59
      go_wp2_with fail
      refine (H1.out _).mono ?_
      rintro e w4 ⟨rfl, rfl⟩
      go_wp2_with fail
      refine (H2.out _).mono ?_
      rintro e w4 ⟨rfl, rfl⟩
      go_wp2_with fail
      go_ret
      exact ⟨by rw [HN.out]; rfl, K2.out⟩
  · rw [decide_eq_false c1] at H1
    have HN : Hid (q = false) := QN.out fun e => c1 ⟨e.1, e.2.1⟩
    clear c1
    go_enter Tryd.func59, Tryd.ntmps59
    go_wp2_with fail
    refine (H1.out _).mono ?_
    rintro e w4 ⟨rfl, rfl⟩
    go_wp2_with fail
    go_ret
    exact ⟨by rw [HN.out]; rfl, K2.out⟩
end Go.Proofs.YtgkihfemlbhioaaDoor
