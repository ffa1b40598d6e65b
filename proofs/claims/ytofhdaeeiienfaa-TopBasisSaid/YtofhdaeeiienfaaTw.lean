/- The symbols that TopBasis lays. -/
import Derived.Test.YtofhdaeeiienfaaSshape
import Derived.Test.YtofhdaeeiienfaaBlaid
namespace Go.Proofs.Ytofhdaeeiienfaa
open Go.RowKit
set_option linter.unusedVariables false
set_option linter.unusedSimpArgs false
set_option maxRecDepth 100000 in
set_option maxHeartbeats 4000000 in
theorem symbols_mat (B n c rows cols : Nat) (A : Option Addr) (xs : List Nat) (w : World) (h : Bytes w B A n xs) (hB : B ≤ w.heap.size) (hn : n ≤ 140737488355328) (h1 : rows ≤ 1000) (h2 : cols ≤ 1000) :
    Calls Try.prog 34 #[.slice A n c, .int .i64 (rows : Int), .int .i64 (cols : Int)] w fun e w' => ∃ A' n' c', e = .returned (.slice A' n' c') ∧ Mat w' ⟨A', n', c', shapeN xs rows cols⟩ ∧ Keep w w' := by
  have H := Lib.hid h
  have HXL : Hid (xs.length = n) := h.length
  have mk2 := fun w => run_make_bytes (P := Try.prog) Try.underlying23 info5 cols (by omega) w
  clear h
  go_enter Try.func34, Try.ntmps34
  go_wp2_with fail
  go_loopw [7, 8] (fun mv iv wr => ∃ (i : Nat) (A : Option Addr) (c : Nat) (rs : List RowV), i ≤ rows ∧ iv = .int .i64 i ∧ mv = .slice A i c ∧ Lay w wr A i c rs ∧ rowsXs rs = shapeN xs i cols) (fun _ iv _ => rows - (intOf iv).toNat)
  case atStart => exact ⟨0, none, 0, [], by omega, rfl, rfl, Lay.nothing w, rfl⟩
  case round =>
    obtain ⟨i, A1, c1, rs, hi, rfl, rfl, hL, hx⟩ := hrel
    have HL := Lib.hid hL
    have HX := Lib.hid hx
    by_cases hlt : i < rows
    · have e1 : (0 : Int) ≤ (i : Int) := Int.natCast_nonneg _
      have e2 : (i : Int) < (rows : Int) := by omega
      obtain ⟨gr, hgr⟩ : ∃ gr, wr.heap.size = gr := ⟨_, rfl⟩
      have oR := Own.made wr 5 cols (by omega)
      rw [hgr, show List.replicate cols 0 = partP xs cols i 0 by rw [replicate_tab, partP]; exact tab_congr fun x _ => by rw [if_neg (by omega)]] at oR
      generalize madeCells #[.int .u8 0] cols = MC at *
      have OS := Lib.hid oR
      have KS : Hid (Keep wr (wr.alloc (.cells MC 5))) := (Keep.refl wr).alloc _ _
      have HG := Lib.hid hgr
      clear hL hx oR
      go_wp2_with fail
      try rw [HG.out]
      clear hgr
      go_loopw [10] (fun kv wz => ∃ k : Nat, k ≤ cols ∧ kv = .int .i64 k ∧ Own wz gr 5 (some ⟨gr, 0, none⟩) cols cols (partP xs cols i k) ∧ Keep wr wz) (fun kv _ => cols - (intOf kv).toNat)
      case atStart => exact ⟨0, by omega, rfl, OS.out, KS.out⟩
      case round =>
        clear OS KS
        obtain ⟨k, hkc, rfl, hoz, hkz⟩ := hrel
        obtain ⟨p, hp⟩ : ∃ p, i * cols = p := ⟨_, rfl⟩
        have hpb : p ≤ 1000000 := by rw [← hp]; exact Nat.le_trans (Nat.mul_le_mul (show i ≤ 1000 by omega) h2) (by decide)
        have d1 : (i : Int) * (cols : Int) = (p : Int) := by rw [← hp]; simp
        obtain ⟨s, hs⟩ : ∃ s, p + k = s := ⟨_, rfl⟩
        have d2 : (p : Int) + (k : Int) = (s : Int) := by omega
        have w1 : IntKind.i64.wrap (p : Int) = (p : Int) := IntWalk.i64_in _ (by omega)
        have w2 : IntKind.i64.wrap (s : Int) = (s : Int) := IntWalk.i64_in _ (by omega)
        have hips : i * cols + k = s := by rw [hp, hs]
        have f1 : (0 : Int) ≤ (k : Int) := Int.natCast_nonneg _
        by_cases hin : k < cols ∧ s < n
        · have f2 : (k : Int) < (cols : Int) := by omega
          have f3 : (s : Int) < (n : Int) := by omega
          have f4 : decide ((s : Int) < (n : Int)) = true := decide_eq_true f3
          have f4' : decide (s < n) = true := decide_eq_true hin.2
          have f5 : (0 : Int) ≤ (s : Int) := Int.natCast_nonneg _
          obtain ⟨b1, o1, rfl, hb1, c2⟩ := (H.out.keep hB (HL.out.keep.trans hkz)).at_ hin.2
          have c3 := hoz.frozen k
          have c4 := hoz.cell hin.1
          have hx : xs.getD s 0 < 256 := H.out.2.1.getD s
          have o2 := hoz.stored (i := k) (v := xs.getD s 0) hx
          have hps := partP_step xs cols i k
          rw [hips] at hps
          rw [hps] at o2
          have HO2 := Lib.hid o2
          have HK2 := Lib.hid (hkz.setCell (a := ⟨gr, k, none⟩) (by rw [HG.out]; exact Nat.le_refl _) (.int .u8 ((xs.getD s 0 : Nat) : Int)))
          generalize xs.getD s 0 = x at *
          clear hoz hkz o2 hps hips hp hs hb1
          go_wp2_with fail
          go_roundw
          case rel => exact ⟨k + 1, by omega, by go_num, HO2.out, HK2.out⟩
          case measure => simp [intOf]; omega
        · have hdone := partP_done xs cols i k (by rw [HXL.out, hips]; omega)
          rw [hdone] at hoz
          have HOz := Lib.hid hoz
          have HLz := Lib.hid (HL.out.later hkz)
          have HXz : Hid (rowsXs (rs ++ [⟨some ⟨gr, 0, none⟩, cols, cols, shapeR xs cols i⟩]) = shapeN xs (i + 1) cols) := by
            show _ = _
            rw [shapeN_succ, ← HX.out]; simp [rowsXs]
          clear hoz hkz hdone hips hp hs
          by_cases hkk : k < cols
          · have f2 : (k : Int) < (cols : Int) := by omega
            have f3 : ¬ (s : Int) < (n : Int) := by omega
            have f4 : decide ((s : Int) < (n : Int)) = false := decide_eq_false f3
            have f4' : decide (s < n) = false := decide_eq_false (by omega)
            clear hin
            go_wp2_with (at_builtin; refine wpList_append_layrow rfl _ _ 22 rfl ⟨some ⟨gr, 0, none⟩, cols, cols, shapeR xs cols i⟩ 23 Try.underlying22 rfl HLz.out (HLz.out.own HOz.out) rfl (by omega) ?_)
            intro A8 c8 w8 h8
            have H8 := Lib.hid h8
            clear h8
            go_wp2_with fail
            go_roundw
            case rel => exact ⟨i + 1, A8, c8, _, by omega, by go_num, rfl, H8.out, HXz.out⟩
            case measure => simp [intOf]; omega
          · have f2 : ¬ (k : Int) < (cols : Int) := by omega
            clear hin
            go_wp2_with (at_builtin; refine wpList_append_layrow rfl _ _ 22 rfl ⟨some ⟨gr, 0, none⟩, cols, cols, shapeR xs cols i⟩ 23 Try.underlying22 rfl HLz.out (HLz.out.own HOz.out) rfl (by omega) ?_)
            intro A8 c8 w8 h8
            have H8 := Lib.hid h8
            clear h8
            go_wp2_with fail
            go_roundw
            case rel => exact ⟨i + 1, A8, c8, _, by omega, by go_num, rfl, H8.out, HXz.out⟩
            case measure => simp [intOf]; omega
    · obtain rfl : i = rows := by omega
      have hm := hL.mat
      rw [hx] at hm
      have HM := Lib.hid hm
      have HK := Lib.hid hL.keep
      clear hL hx hm
      go_wp2_with fail
      go_ret
      exact ⟨_, _, _, rfl, HM.out, HK.out⟩
end Go.Proofs.Ytofhdaeeiienfaa
/- The rows that TopBasis lays: coefficients out of an argument, payloads that go with them. -/
namespace Go.Proofs.Ytofhdaeeiienfaa
open Go.RowKit
set_option linter.unusedVariables false
set_option linter.unusedSimpArgs false
set_option maxRecDepth 100000 in
set_option maxHeartbeats 4000000 in
theorem lrows_any (g s n2 c2 n cs : Nat) (A2 As : Option Addr) (rs2 : List RowV) (M : List (List Nat)) (w : World) (h2 : RowsAt w w.heap.size A2 n2 rs2) (m2 : n2 ≤ 140737488351232) (hm : Mat w ⟨As, n, cs, M⟩) (sz : Sz g s M) (g1 : 1 ≤ g) (g2 : g ≤ 10) (s2 : s ≤ 10) :
    Calls Try.prog 35 #[.slice A2 n2 c2, .slice As n cs] w fun e w' => ∃ Ar k cr ps, e = .returned (.slice Ar k cr) ∧ StIn w' (fun b => w.heap.size ≤ b ∧ b < w'.heap.size) Ar k ps ∧ (ps.map fun p => (p.a.xs, p.b.xs)) = rowsM g s M (rowsOf rs2) 16 ∧ (∀ p ∈ ps, p.a.n = g ∧ p.b.n = s) ∧ Keep w w' := by
  obtain rfl : n = g := hm.cnt sz
  have H := Lib.hid (And.intro h2 (And.intro hm sz))
  have HGS := Lib.hid (And.intro g1 (And.intro g2 s2))
  have mkg := fun w => run_make_bytes (P := Try.prog) Try.underlying23 info5 n (by omega) w
  clear h2 hm sz
  go_enter Try.func35, Try.ntmps35
  go_wp2_with fail
  go_loopw [5, 6] (fun o i wz => ∃ (k : Nat) (Ar : Option Addr) (cr : Nat) (ps : List PairV), k ≤ n2 ∧ k ≤ 16 ∧ i = .int .i64 k ∧ o = .slice Ar k cr ∧ LaySt w wz Ar k cr ps ∧ (ps.map fun p => (p.a.xs, p.b.xs)) = rowsM n s M (rowsOf rs2) k ∧ ∀ p ∈ ps, p.a.n = n ∧ p.b.n = s) (fun _ i _ => n2 - (intOf i).toNat)
  case atStart => exact ⟨0, none, 0, [], by omega, by omega, rfl, rfl, LaySt.nothing w, rfl, fun p hp => by simp at hp⟩
  case round =>
    obtain ⟨k, Ar, cr, ps, hk, hk40, rfl, rfl, hl2, hx2, hn2⟩ := hrel
    have HL2 := Lib.hid hl2
    have HX2 := Lib.hid hx2
    have HN2 := Lib.hid hn2
    clear hl2 hx2 hn2
    by_cases hlt2 : k < n2
    · have e5 : (0 : Int) ≤ (k : Int) := Int.natCast_nonneg _
      have e6 : (k : Int) < (n2 : Int) := by omega
      have e6' : decide ((k : Int) < (n2 : Int)) = true := decide_eq_true e6
      obtain ⟨b, off, r, rfl, hb, hr, hck, hby, hrn, hrc⟩ := (H.out.1.keep (Nat.le_refl _) HL2.out.2.2).at_ hlt2
      by_cases h40 : k = 16
      · have b4 : decide ((k : Int) < 16) = false := decide_eq_false (by omega)
        have b4' : decide (k < 16) = false := decide_eq_false (by omega)
        have H40 := Lib.hid h40
        clear h40 hr hby hrn hrc hb
        go_wp2_with fail
        go_ret
        refine ⟨Ar, _, cr, ps, rfl, HL2.out.stIn, ?_, HN2.out, HL2.out.2.2⟩
        rw [HX2.out, H40.out]
      · have b4 : decide ((k : Int) < 16) = true := decide_eq_true (by omega)
        have b4' : decide (k < 16) = true := decide_eq_true (by omega)
        have hb1 := (H.out.1.2.1 r (List.mem_of_getElem? hr)).1.keep (Nat.le_refl _) HL2.out.2.2
        obtain ⟨w5, vv, hcp, ho5, hk5⟩ := run_copy_fill (P := Try.prog) (t := 23) (e := 5) (c := r.c) (ty := 3) (n := n) Try.underlying23 (by kernel_rfl) hb1 (by have := HL2.out.2.2.size; omega) (by have := HGS.out; omega)
        have HSU := Lib.hid (rowsM_succ (g := n) (s := s) (M := M) (show (rowsOf rs2)[k]? = some r.xs by rw [rowsOf, List.getElem?_map, hr]; rfl))
        have HL5 := Lib.hid (HL2.out.later hk5)
        have HO5 := Lib.hid ho5
        have hk3 : k < 16 := by omega
        have hck2 := (Below.cell (show Keep wr (wr.alloc (.cells (madeCells #[.int .u8 0] n) 5)) from (Keep.refl wr).alloc _ _) (World.block_lt_of_cell? wr _ hck)).trans hck
        clear hck
        clear hr hby hrn hrc ho5 hb hb1 hk5 h40
        go_wp2_with fail
        refine (comb_mat (H.out.2.1.keep HL5.out.2.2) H.out.2.2 (by have := HGS.out; omega) (by have := HGS.out; omega) (by have := HGS.out; omega) HO5.out.bytes (Nat.le_refl _) rfl).mono ?_
        rintro e w6 ⟨A6, n6, c6, rfl, o6, k6⟩
        obtain rfl : s = n6 := by rw [← o6.length]; exact (tab_length _ _).symm
        have HO6 := Lib.hid o6
        have HK6 := Lib.hid k6
        have HL7 := Lib.hid (HL5.out.later HK6.out)
        have HOa : Hid (Own w6 w.heap.size 5 (some ⟨wr.heap.size, 0, none⟩) n n (fillN r.xs n)) := (HO5.out.keep HK6.out).lower HL2.out.2.2.size
        have HOb : Hid (Own w6 w.heap.size 5 A6 s c6 (payV n s M (fillN r.xs n))) := HO6.out.lower HL5.out.2.2.size
        clear o6 k6
        go_wp2_with (at_builtin; refine wpList_append_st rfl _ _ 57 rfl ⟨⟨some ⟨wr.heap.size, 0, none⟩, n, n, fillN r.xs n⟩, ⟨A6, s, c6, payV n s M (fillN r.xs n)⟩⟩ Try.underlying57 rfl (HL7.out.1.keep ((Keep.refl w6).alloc _ _)) rfl (by rw [World.cell?_alloc_new]; rfl) (by rw [World.cell?_alloc_new]; rfl) (by omega) (by have := HL7.out.2.2.size; simp; omega) ?_)
        intro A8 c8 w8 h8 hgr8 hb8
        have HL8 := Lib.hid (HL7.out.more (HL7.out.apart HOa.out) (HL7.out.apart HOb.out) h8 hgr8 (by simpa using hb8))
        clear h8 hgr8 hb8
        go_wp2_with fail
        go_roundw
        case rel => exact ⟨k + 1, A8, c8, _, by omega, by omega, by go_num, rfl, HL8.out, by rw [List.map_append, HX2.out, HSU.out]; rfl, fun p hp => by
          rcases List.mem_append.1 hp with hp | hp
          · exact HN2.out p hp
          · rw [List.mem_singleton] at hp; subst hp; exact ⟨rfl, rfl⟩⟩
        case measure => simp [intOf]; omega
    · obtain rfl : k = n2 := by omega
      have e6' : decide ((k : Int) < (k : Int)) = false := decide_eq_false (by omega)
      go_wp2_with fail
      go_ret
      refine ⟨Ar, _, cr, ps, rfl, HL2.out.stIn, ?_, HN2.out, HL2.out.2.2⟩
      rw [HX2.out]
      rw [rowsM, rowsM, List.take_of_length_le (by simp [rowsOf]; have := H.out.1.1; omega), List.take_of_length_le (by simp [rowsOf]; have := H.out.1.1; omega)]
end Go.Proofs.Ytofhdaeeiienfaa
