/- The landed code of layer 7: a row cleared at a new row's lead; where the new one is to stand. -/
import Derived.Test.YtifopodnceopjaaGreatDoorQae
import Derived.Deep.LoopGhost
import Derived.Test.YtifopodnceopjaaGreatDoorQab
import Derived.Laws.CopyRow
import Derived.Laws.MakeOwn
import Derived.Lib.Overlaps
import Derived.Laws.Externs
import Derived.WalkKit
import Derived.Deep.RegionLaw
import Derived.Test.YtifopodnceopjaaGreatDoorQad
import Derived.Deep.QuietTactic
namespace Go.Proofs.YtifopodnceopjaaGreatDoor
open Go.RowKit Lin
set_option linter.unusedVariables false
set_option linter.unusedSimpArgs false
theorem three_allocs' (w : World) (a1 a2 a3 : Array Value) (t1 t2 t3 : TypeId) :
    (((w.alloc (.cells a1 t1)).alloc (.cells a2 t2)).alloc (.cells a3 t3)).heap[w.heap.size]? = some (.cells a1 t1) ∧ (((w.alloc (.cells a1 t1)).alloc (.cells a2 t2)).alloc (.cells a3 t3)).heap[w.heap.size + 1]? = some (.cells a2 t2) ∧
    (((w.alloc (.cells a1 t1)).alloc (.cells a2 t2)).alloc (.cells a3 t3)).heap[w.heap.size + 1 + 1]? = some (.cells a3 t3) ∧ Keep w (((w.alloc (.cells a1 t1)).alloc (.cells a2 t2)).alloc (.cells a3 t3)) := by
  have h := three_allocs w a1 a2 a3 t1 t2 t3
  exact ⟨h.1, h.2.1, h.2.2.1, (((Keep.refl w).alloc _ _).alloc _ _).alloc _ _⟩
/-- What is told of a row cleared. -/
structure ClearR (w w' : World) (F : Nat → Prop) (g s : Nat) (xs ys : List Nat) (p : PairV) : Prop where
  an : p.a.n = g
  bn : p.b.n = s
  a : LiesIn w' (fun b => F b ∨ w.heap.size ≤ b ∧ b < w'.heap.size) p.a
  b : LiesIn w' (fun b => F b ∨ w.heap.size ≤ b ∧ b < w'.heap.size) p.b
  ax : p.a.xs = xs
  bx : p.b.xs = ys
  keep : Keep w w'
set_option maxRecDepth 100000 in
set_option maxHeartbeats 2000000 in
theorem bcleared_any (g s L : Nat) (p q : PairV) (F : Nat → Prop) (w : World) (hp : LiesIn w F p.a ∧ LiesIn w F p.b ∧ p.a.n = g ∧ p.b.n = s) (hq : Bytes w w.heap.size q.a.A g q.a.xs ∧ Bytes w w.heap.size q.b.A s q.b.xs ∧ q.a.n = g ∧ q.b.n = s) (hF : ∀ b, F b → b < w.heap.size) (hL : L < g) (hg : g ≤ 255) (hs : s ≤ 65535) :
    Calls Tryz.prog 94 #[p.agg, q.agg, .int .i64 (L : Int)] w fun e w' => ∃ p', e = .returned p'.agg ∧ ClearR w w' F g s (vAddS g p.a.xs q.a.xs (p.a.xs.getD L 0)) (vAddS s p.b.xs q.b.xs (p.a.xs.getD L 0)) p' := by
  obtain ⟨⟨A1, n1, c1, x1⟩, ⟨A2, n2, c2, x2⟩⟩ := p
  obtain ⟨⟨A3, n3, c3, x3⟩, ⟨A4, n4, c4, x4⟩⟩ := q
  obtain ⟨p1, p2, rfl, rfl⟩ := hp
  obtain ⟨q1, q2, q3, q4⟩ := hq
  simp only at q1 q2 q3 q4 hL hg hs
  obtain rfl : n3 = n1 := q3
  obtain rfl : n4 = n2 := q4
  show Calls _ _ #[.agg #[.slice A1 n3 c1, .slice A2 n4 c2], .agg #[.slice A3 n3 c3, .slice A4 n4 c4], _] _ fun e w' => ∃ p', e = .returned p'.agg ∧ ClearR w w' F n3 n4 (vAddS n3 x1 x3 (x1.getD L 0)) (vAddS n4 x2 x4 (x1.getD L 0)) p'
  have B1 : Bytes w w.heap.size A1 n3 x1 := p1.bytes hF
  have B2 : Bytes w w.heap.size A2 n4 x2 := p2.bytes hF
  obtain ⟨⟨q0, hq0⟩⟩ : Nonempty (∃ q0, w.heap.size = q0) := ⟨_, rfl⟩
  have T := three_allocs' w #[.slice A1 n3 c1, .slice A2 n4 c2] #[.slice A3 n3 c3, .slice A4 n4 c4] #[.slice none 0 0, .slice none 0 0] 38 38 38
  rw [hq0] at T
  obtain ⟨b5, o5, rfl, hb5, hc5⟩ := B1.at_ hL
  obtain ⟨c, hc⟩ : ∃ c, x1.getD L 0 = c := ⟨_, rfl⟩
  rw [hc] at hc5 ⊢
  have hcb : c < 256 := by rw [← hc]; exact B1.all.getD L
  have d1 : (0 : Int) ≤ (L : Int) := Int.natCast_nonneg _
  have d2 : (L : Int) < (n3 : Int) := by omega
  have HB := Lib.hid (And.intro B1 (And.intro B2 (And.intro q1 q2)))
  have HP := Lib.hid (And.intro p1 p2)
  have HT := Lib.hid T
  have HC5 := Lib.hid (And.intro hb5 hc5)
  have HQ0 := Lib.hid hq0
  clear B1 B2 p1 p2 q1 q2 T hb5 hc5 hc
  go_enter Tryz.func94, Tryz.ntmps94
  go_upto_region 1 with fail
  clear hq0
  generalize (((w.alloc (.cells #[.slice (some ⟨b5, o5, none⟩) n3 c1, .slice A2 n4 c2] 38)).alloc (.cells #[.slice A3 n3 c3, .slice A4 n4 c4] 38)).alloc (.cells #[.slice none 0 0, .slice none 0 0] 38)) = w3 at *
  have k0 : w3.cell? ⟨q0, 0, none⟩ = some (.slice (some ⟨b5, o5, none⟩) n3 c1) := cell_of_row _ _ _ _ _ _ HT.out.1
  have k1 : w3.cell? ⟨q0, 1, none⟩ = some (.slice A2 n4 c2) := cell_of_row _ _ _ _ _ _ HT.out.1
  have k2 : w3.cell? ⟨q0 + 1, 0, none⟩ = some (.slice A3 n3 c3) := cell_of_row _ _ _ _ _ _ HT.out.2.1
  have k3 : w3.cell? ⟨q0 + 1, 1, none⟩ = some (.slice A4 n4 c4) := cell_of_row _ _ _ _ _ _ HT.out.2.1
  have k4 : w3.cell? ⟨b5, o5 + L, none⟩ = some (.int .u8 (c : Int)) := (HT.out.2.2.2.cell (p := ⟨b5, o5 + L, none⟩) HC5.out.1).trans HC5.out.2
  have z0 : w3.cell? ⟨q0 + 1 + 1, 0, none⟩ = some (.slice none 0 0) := cell_of_row _ _ _ _ _ _ HT.out.2.2.1
  have z1 : w3.cell? ⟨q0 + 1 + 1, 1, none⟩ = some (.slice none 0 0) := cell_of_row _ _ _ _ _ _ HT.out.2.2.1
  have f0 : w3.frozen? ⟨q0 + 1 + 1, 0, none⟩ = false := by simp [World.frozen?, HT.out.2.2.1]
  have f1 : w3.frozen? ⟨q0 + 1 + 1, 1, none⟩ = false := by simp [World.frozen?, HT.out.2.2.1]
  by_cases hz : c = 0
  · subst hz
    go_wp2_with fail
    have hb := bset (i := 1) (bset (i := 0) HT.out.2.2.1 (.slice (some ⟨b5, o5, none⟩) n3 c1)) (.slice A2 n4 c2)
    have K : Keep w ((w3.setCell ⟨q0 + 1 + 1, 0, none⟩ (.slice (some ⟨b5, o5, none⟩) n3 c1)).setCell ⟨q0 + 1 + 1, 1, none⟩ (.slice A2 n4 c2)) := (HT.out.2.2.2.setCell (a := ⟨q0 + 1 + 1, 0, none⟩) (by rw [HQ0.out]; show q0 ≤ q0 + 1 + 1; omega) _).setCell (a := ⟨q0 + 1 + 1, 1, none⟩) (by rw [HQ0.out]; show q0 ≤ q0 + 1 + 1; omega) _
    refine bodyPost_ret (v := .agg #[.slice (some ⟨b5, o5, none⟩) n3 c1, .slice A2 n4 c2]) ?_ rfl ⟨⟨⟨some ⟨b5, o5, none⟩, n3, c1, x1⟩, ⟨A2, n4, c2, x2⟩⟩, rfl, rfl, rfl, ?_, ?_, ?_, ?_, K⟩
    · exact results_cell_row (p := 6) (ty := 38) rfl _ _ (q0 + 1 + 1) 38 _ (0, 0) _ rfl hb Tryz.underlying38 rfl infoRowSize
    · exact (HP.out.1.turned (Turned.of_keep (F := fun _ => False) K) fun _ _ e => e).mono fun b hb => Or.inl hb
    · exact (HP.out.2.turned (Turned.of_keep (F := fun _ => False) K) fun _ _ e => e).mono fun b hb => Or.inl hb
    · exact (vAddS_none x3 HB.out.1.length HB.out.2.2.1.all).symm
    · exact (vAddS_none x4 HB.out.2.1.length HB.out.2.2.2.all).symm
  · have b1 : ((c : Int) == 0) = false := beq_eq_false_iff_ne.2 (by omega)
    clear hz
    go_wp2_with fail
    refine (vaddS_any _ _ n3 _ _ c _ _ x1 x3 _ (HB.out.1.keep (Nat.le_refl _) HT.out.2.2.2) (HB.out.2.2.1.keep (Nat.le_refl _) HT.out.2.2.2) HT.out.2.2.2.size HT.out.2.2.2.size (by omega) hcb).mono ?_
    rintro e w4 ⟨A5, n5, c5, rfl, o5', k5⟩
    obtain rfl : n5 = n3 := by rw [← o5'.length]; exact tab_length _ _
    have K4 := Lib.hid (HT.out.2.2.2.trans k5)
    have HT4 : Hid (w4.heap[q0]? = some (.cells #[.slice (some ⟨b5, o5, none⟩) n5 c1, .slice A2 n4 c2] 38 (0, 0)) ∧ w4.heap[q0 + 1]? = some (.cells #[.slice A3 n5 c3, .slice A4 n4 c4] 38 (0, 0)) ∧ w4.heap[q0 + 1 + 1]? = some (.cells #[.slice none 0 0, .slice none 0 0] 38 (0, 0))) :=
      ⟨(k5.block _ (Array.getElem?_eq_some_iff.1 HT.out.1).1).trans HT.out.1, (k5.block _ (Array.getElem?_eq_some_iff.1 HT.out.2.1).1).trans HT.out.2.1, (k5.block _ (Array.getElem?_eq_some_iff.1 HT.out.2.2.1).1).trans HT.out.2.2.1⟩
    have O5 := Lib.hid o5'
    have k1 : w4.cell? ⟨q0, 1, none⟩ = some (.slice A2 n4 c2) := cell_of_row _ _ _ _ _ _ HT4.out.1
    have k3 : w4.cell? ⟨q0 + 1, 1, none⟩ = some (.slice A4 n4 c4) := cell_of_row _ _ _ _ _ _ HT4.out.2.1
    have H3 : Hid (q0 + 1 + 1 < w3.heap.size) := (Array.getElem?_eq_some_iff.1 HT.out.2.2.1).1
    clear o5' k5 k0 k2 k4 z0 z1 f0 f1
    go_wp2_with fail
    refine (vaddS_any _ _ n4 _ _ c _ _ x2 x4 _ (HB.out.2.1.keep (Nat.le_refl _) K4.out) (HB.out.2.2.2.keep (Nat.le_refl _) K4.out) K4.out.size K4.out.size (by omega) hcb).mono ?_
    rintro e w5 ⟨A6, n6, c6, rfl, o6', k6⟩
    obtain rfl : n6 = n4 := by rw [← o6'.length]; exact tab_length _ _
    have K5 := Lib.hid (K4.out.trans k6)
    have HT5 : Hid (w5.heap[q0 + 1 + 1]? = some (.cells #[.slice none 0 0, .slice none 0 0] 38 (0, 0))) := (k6.block _ (Array.getElem?_eq_some_iff.1 HT4.out.2.2).1).trans HT4.out.2.2
    have O6 := Lib.hid o6'
    have O5' := Lib.hid (O5.out.keep k6)
    have H4 : Hid (q0 + 1 + 1 < w4.heap.size) := (Array.getElem?_eq_some_iff.1 HT4.out.2.2).1
    have z0 : w5.cell? ⟨q0 + 1 + 1, 0, none⟩ = some (.slice none 0 0) := cell_of_row _ _ _ _ _ _ HT5.out
    have z1 : w5.cell? ⟨q0 + 1 + 1, 1, none⟩ = some (.slice none 0 0) := cell_of_row _ _ _ _ _ _ HT5.out
    have f0 : w5.frozen? ⟨q0 + 1 + 1, 0, none⟩ = false := by simp [World.frozen?, HT5.out]
    have f1 : w5.frozen? ⟨q0 + 1 + 1, 1, none⟩ = false := by simp [World.frozen?, HT5.out]
    clear o6' k6 k1 k3
    go_wp2_with fail
    have hb := bset (i := 1) (bset (i := 0) HT5.out (.slice A5 n5 c5)) (.slice A6 n6 c6)
    have K : Keep w ((w5.setCell ⟨q0 + 1 + 1, 0, none⟩ (.slice A5 n5 c5)).setCell ⟨q0 + 1 + 1, 1, none⟩ (.slice A6 n6 c6)) := (K5.out.setCell (a := ⟨q0 + 1 + 1, 0, none⟩) (by rw [HQ0.out]; show q0 ≤ q0 + 1 + 1; omega) _).setCell (a := ⟨q0 + 1 + 1, 1, none⟩) (by rw [HQ0.out]; show q0 ≤ q0 + 1 + 1; omega) _
    have P5 := ((O5'.out.far (p := ⟨q0 + 1 + 1, 0, none⟩) (fun e => by have h1 := (O5'.out.1.lt _ e).1; have := H3.out; exact absurd h1 (by show ¬ _ ≤ q0 + 1 + 1; omega)) (.slice A5 n5 c5)).far (p := ⟨q0 + 1 + 1, 1, none⟩) (fun e => by have h1 := (O5'.out.1.lt _ e).1; have := H3.out; exact absurd h1 (by show ¬ _ ≤ q0 + 1 + 1; omega)) (.slice A6 n6 c6))
    have P6 := ((O6.out.far (p := ⟨q0 + 1 + 1, 0, none⟩) (fun e => by have h1 := (O6.out.1.lt _ e).1; have := H4.out; exact absurd h1 (by show ¬ _ ≤ q0 + 1 + 1; omega)) (.slice A5 n5 c5)).far (p := ⟨q0 + 1 + 1, 1, none⟩) (fun e => by have h1 := (O6.out.1.lt _ e).1; have := H4.out; exact absurd h1 (by show ¬ _ ≤ q0 + 1 + 1; omega)) (.slice A6 n6 c6))
    refine bodyPost_ret (v := .agg #[.slice A5 n5 c5, .slice A6 n6 c6]) ?_ rfl ⟨⟨⟨A5, n5, c5, _⟩, ⟨A6, n6, c6, _⟩⟩, rfl, rfl, rfl, P5.lies.mono ?_, P6.lies.mono ?_, rfl, rfl, K⟩
    · exact results_cell_row (p := 6) (ty := 38) rfl _ _ (q0 + 1 + 1) 38 _ (0, 0) _ rfl hb Tryz.underlying38 rfl infoRowSize
    · intro b hb
      have h1 := P5.1.lt _ hb
      have := H3.out
      exact Or.inr ⟨by rw [HQ0.out]; omega, h1.2⟩
    · intro b hb
      have h1 := P6.1.lt _ hb
      have := H4.out
      exact Or.inr ⟨by rw [HQ0.out]; omega, h1.2⟩
end Go.Proofs.YtifopodnceopjaaGreatDoor
/- The landed code of layer 7: where a new row is to stand. -/
namespace Go.Proofs.YtifopodnceopjaaGreatDoor
open Go.RowKit Lin
set_option linter.unusedVariables false
set_option linter.unusedSimpArgs false
set_option maxRecDepth 100000 in
set_option maxHeartbeats 2000000 in
theorem bplace_any {w : World} {F : Nat → Prop} {b g s n c : Nat} {B : List (List Nat)} {A : Option Addr} {ps : List PairV} (h : BasA w F b g s B A n c ps) (L : Nat) (hL : L < g) :
    Calls Tryz.prog 96 #[.pointer (some ⟨b, 0, none⟩), .int .i64 (L : Int)] w fun e w' => ∃ q : Nat, e = .returned (.int .i64 (q : Int)) ∧ q ≤ n ∧ (∀ i, i < q → ∃ j, j < L ∧ (B.getD i []).getD j 0 ≠ 0) ∧ (q < n → ∀ j, j < L → (B.getD q []).getD j 0 = 0) ∧ Keep w w' := by
  have c2 := h.c2
  have H := Lib.hid h
  have hn : n ≤ 255 := by have := h.n_le; have := h.g2; omega
  have hg : g ≤ 255 := h.g2
  have hb := h.lt b h.at_
  have HC2 := Lib.hid (And.intro hb c2)
  clear h
  go_enter Tryz.func96, Tryz.ntmps96
  go_wp2_with fail
  go_step3
  go_wp2_with fail
  go_step3
  go_wp2_with fail
  clear c2 hb
  go_loopg [14] n (fun gk i wx => ∃ k : Nat, k + gk = n ∧ i = .int .i64 k ∧ Keep w wx ∧ ∀ i, i < k → ∃ j, j < L ∧ (B.getD i []).getD j 0 ≠ 0)
  case atStart => exact ⟨0, by omega, rfl, Keep.refl w, fun i hi => by omega⟩
  case round =>
    obtain ⟨k, hkg, rfl, hk, hlo⟩ := hrel
    have HK := Lib.hid hk
    have HLO := Lib.hid hlo
    have c2 := (hk.cell (p := ⟨b, 2, none⟩) HC2.out.1).trans HC2.out.2
    clear hk hlo
    cases gk with
    | zero =>
      obtain rfl : k = n := by omega
      have e1 : ¬ (k : Int) < (k : Int) := by omega
      go_wp2_with fail
      go_ret
      exact ⟨k, rfl, Nat.le_refl _, HLO.out, fun h => by omega, HK.out⟩
    | succ gg =>
      have hlt : k < n := by omega
      have e1 : (k : Int) < (n : Int) := by omega
      have e2 : (0 : Int) ≤ (k : Int) := Int.natCast_nonneg _
      obtain ⟨b2, o2, p, rfl, hb2, hp, hc1, hc2, hl2, _⟩ := (H.out.st.keep HK.out).at_ hlt
      have hsz := (H.out.size p (List.mem_of_getElem? hp)).1
      have hrow := H.out.row hp
      have hcap := hl2.2.2.1
      have hby := hl2.bytes (B := w.heap.size) H.out.lt
      have hpl := (H.out.lens (List.mem_of_getElem? hp)).1
      obtain ⟨⟨pA, pn, pc, px⟩, ⟨sA, sn, sc, sx⟩⟩ := p
      simp only at hsz hrow hcap hby hpl
      obtain rfl : pn = g := hsz
      have hsl := fun (w : World) => run_slice_h (P := Tryz.prog) (w := w) 22 pA pn pc Tryz.underlying22 .i64 (L : Int) (by omega) (by omega)
      have HROW : Hid (∀ t, t < pn → (B.getD k []).getD t 0 = px.getD t 0) := fun t ht => by rw [hrow.1, List.getD_eq_getElem?_getD, List.getElem?_append_left (by rw [hpl]; exact ht), ← List.getD_eq_getElem?_getD]
      have HPY := Lib.hid hby
      have HKN : Hid (k + (gg + 1) = n) := hkg
      clear hl2 hp hb2 hrow hby hpl hcap
      go_wp2_with fail
      have K2 : Hid (Keep wr (wr.alloc (.cells #[.slice pA pn pc, .slice sA sn sc] 38))) := (Keep.refl wr).alloc _ _
      clear hc1 hc2 c2 hsl
      generalize (wr.alloc (.cells #[.slice pA pn pc, .slice sA sn sc] 38)) = w2 at *
      go_loopg [24] L (fun g2 i wy => ∃ j : Nat, j + g2 = L ∧ i = .int .i64 j ∧ Keep w2 wy ∧ ∀ t, t < j → px.getD t 0 = 0)
      case atStart => exact ⟨0, by omega, rfl, Keep.refl _, fun t ht => by omega⟩
      case round =>
        obtain ⟨j, hjg, rfl, hk3, hz⟩ := hrel
        have HK3 := Lib.hid hk3
        have HZ := Lib.hid hz
        clear hk3 hz
        cases gk with
        | zero =>
          obtain rfl : j = L := by omega
          have e3 : ¬ (j : Int) < (j : Int) := by omega
          go_wp2_with fail
          go_ret
          exact ⟨k, rfl, by have := HKN.out; omega, HLO.out, fun _ t ht => by rw [HROW.out t (by omega)]; exact HZ.out t ht, (HK.out.trans K2.out).trans HK3.out⟩
        | succ g2 =>
          have e3 : (j : Int) < (L : Int) := by omega
          have e4 : (0 : Int) ≤ (j : Int) := Int.natCast_nonneg _
          obtain ⟨b3, o3, rfl, hb3, hcx⟩ := (HPY.out.below (Below.mono (K2.out.trans HK3.out) HK.out.size)).at_ (show j < pn by omega)
          by_cases hx : px.getD j 0 = 0
          · have HX := Lib.hid hx
            rw [hx] at hcx
            clear hx
            go_wp2_with fail
            go_roundg g2
            case measure => omega
            case rel => exact ⟨j + 1, by omega, by go_num, HK3.out, fun t ht => by
              by_cases e : t = j
              · subst e; exact HX.out
              · exact HZ.out t (by omega)⟩
          · obtain ⟨x, hxe⟩ : ∃ x, px.getD j 0 = x := ⟨_, rfl⟩
            rw [hxe] at hcx hx
            have HX := Lib.hid (And.intro hxe hx)
            have b1 : ((x : Int) != 0) = true := by rw [bne_iff_ne]; omega
            clear hx hxe
            go_wp2_with fail
            go_roundg gg
            case measure => omega
            case rel => exact ⟨k + 1, by omega, by go_num, (HK.out.trans K2.out).trans HK3.out, fun i hi => by
              by_cases e : i = k
              · subst e; exact ⟨j, by omega, by rw [HROW.out j (by omega), HX.out.1]; exact HX.out.2⟩
              · exact HLO.out i (by omega)⟩
end Go.Proofs.YtifopodnceopjaaGreatDoor
/- Rows of structs in a block of their own: made, stored to, copied. -/
namespace Go.Proofs.YtifopodnceopjaaGreatDoor
open Go.RowKit
set_option linter.unusedVariables false
/-- A block that holds rows, the spare ones too. -/
def StB (w : World) (q : Nat) (ps : List PairV) : Prop := w.heap[q]? = some (.cells (ps.flatMap PairV.vals).toArray 38 (0, 0))
def PairV.zero : PairV := ⟨⟨none, 0, 0, []⟩, ⟨none, 0, 0, []⟩⟩
theorem vals_rep : ∀ n : Nat, (List.replicate n PairV.zero).flatMap PairV.vals = List.replicate (n * 2) (.slice none 0 0)
  | 0 => rfl
  | n + 1 => by
    rw [List.replicate_succ, List.flatMap_cons, vals_rep n, show (n + 1) * 2 = n * 2 + 1 + 1 by omega, List.replicate_succ, List.replicate_succ]; rfl
theorem vals_set : ∀ (ps : List PairV) (k : Nat) (p : PairV), ((ps.flatMap PairV.vals).set (k * 2) p.a.val).set (k * 2 + 1) p.b.val = (ps.set k p).flatMap PairV.vals
  | [], k, p => by simp
  | q :: ps, 0, p => rfl
  | q :: ps, k + 1, p => by
    have ih := vals_set ps k p
    rw [show (k + 1) * 2 = k * 2 + 1 + 1 by omega]
    show (((q.a.val :: q.b.val :: ps.flatMap PairV.vals).set (k * 2 + 1 + 1) p.a.val).set (k * 2 + 1 + 1 + 1) p.b.val) = q.a.val :: q.b.val :: (ps.set k p).flatMap PairV.vals
    rw [List.set_cons_succ, List.set_cons_succ, List.set_cons_succ, List.set_cons_succ, ih]
theorem vals_take : ∀ (ps : List PairV) (k : Nat), (ps.flatMap PairV.vals).take (k * 2) = (ps.take k).flatMap PairV.vals
  | [], k => by simp
  | q :: ps, 0 => by simp
  | q :: ps, k + 1 => by
    rw [show (k + 1) * 2 = k * 2 + 1 + 1 by omega, List.take_succ_cons, List.flatMap_cons, List.flatMap_cons, ← vals_take ps k]; rfl
theorem vals_drop : ∀ (ps : List PairV) (k : Nat), (ps.flatMap PairV.vals).drop (k * 2) = (ps.drop k).flatMap PairV.vals
  | [], k => by simp
  | q :: ps, 0 => by simp
  | q :: ps, k + 1 => by
    rw [show (k + 1) * 2 = k * 2 + 1 + 1 by omega, List.drop_succ_cons, List.flatMap_cons, ← vals_drop ps k]; rfl
theorem vals_one (ps : List PairV) : ∀ v ∈ ps.flatMap PairV.vals, v.oneCell' = true := fun v hv => by
  obtain ⟨p, _, hp⟩ := List.mem_flatMap.1 hv
  simp [PairV.vals] at hp
  rcases hp with rfl | rfl <;> rfl
theorem made_two (z : Value) (n : Nat) : (madeCells #[z, z] n).toList = List.replicate n z := by
  unfold madeCells
  rw [Array.toList_map, Array.toList_range, List.eq_replicate_iff]
  refine ⟨by simp, fun b hb => ?_⟩
  obtain ⟨i, _, rfl⟩ := List.mem_map.1 hb
  show #[z, z][i % 2]! = z
  rcases Nat.mod_two_eq_zero_or_one i with e | e <;> rw [e] <;> rfl
theorem run_make_st (n c : Nat) (hn : n ≤ c) (hc : c ≤ 1000000) (w : World) :
    (Instr.makeSlice 57 (.int .i64 (n : Int)) (.int .i64 (c : Int))).run Tryz.prog w = .ok (.slice (some ⟨w.heap.size, 0, none⟩) n c) (w.alloc (.cells ((List.replicate c PairV.zero).flatMap PairV.vals).toArray 38)) := by
  obtain ⟨i0, hi0, hz0, hz1, hz2⟩ := info_parts infoSt
  have h := run_make (P := Tryz.prog) w 57 38 i0 (.agg #[.slice none 0 0, .slice none 0 0]) Tryz.underlying57 hi0 hz0 .i64 .i64 n c (by omega) (by omega) (by rw [hz2]; omega) (by omega)
  rw [hz1, Int.toNat_natCast, Int.toNat_natCast] at h
  have e : madeCells (Value.cells (.agg #[.slice none 0 0, .slice none 0 0])) (c * 2) = ((List.replicate c PairV.zero).flatMap PairV.vals).toArray := by
    refine Array.ext' ?_
    rw [vals_rep]
    exact made_two _ _
  rw [h, e]
namespace StB
variable {w w' : World} {q : Nat} {ps : List PairV}
theorem made (w : World) (c : Nat) : StB (w.alloc (.cells ((List.replicate c PairV.zero).flatMap PairV.vals).toArray 38)) w.heap.size (List.replicate c PairV.zero) := heap_alloc_new w _
theorem lt (h : StB w q ps) : q < w.heap.size := (Array.getElem?_eq_some_iff.1 h).1
theorem turned {G : Nat → Prop} (h : StB w q ps) (k : Turned G w w') (hn : ¬ G q) : StB w' q ps := (k.block q h.lt hn).trans h
theorem keep (h : StB w q ps) (k : Keep w w') : StB w' q ps := (k.block q h.lt).trans h
theorem cells (h : StB w q ps) {k : Nat} {p : PairV} (hp : ps[k]? = some p) : w.cell? ⟨q, k * 2, none⟩ = some p.a.val ∧ w.cell? ⟨q, k * 2 + 1, none⟩ = some p.b.val := by
  obtain ⟨v1, v2⟩ := vals_at ps k p hp
  constructor
  · rw [World.cell?, h]; simpa using v1
  · rw [World.cell?, h]; simpa using v2
theorem frozen (h : StB w q ps) (j : Nat) : w.frozen? ⟨q, j, none⟩ = false := by simp [World.frozen?, show w.heap[q]? = _ from h]
theorem set (h : StB w q ps) (k : Nat) (p : PairV) : StB ((w.setCell ⟨q, k * 2, none⟩ p.a.val).setCell ⟨q, k * 2 + 1, none⟩ p.b.val) q (ps.set k p) := by
  have e := vals_set ps k p
  show (((w.setCell ⟨q, k * 2, none⟩ p.a.val).setCell ⟨q, k * 2 + 1, none⟩ p.b.val)).heap[q]? = _
  rw [← e]
  simp [World.setCell, Array.getElem?_modify, show w.heap[q]? = _ from h]
theorem own (h : StB w q ps) {base n c : Nat} (hb : base ≤ q) (hn : n ≤ c) (hc : ps.length = c) (hm : c ≤ 1000000) : OwnSt w base (some ⟨q, 0, none⟩) n c (ps.take n) := by
  refine ⟨by rw [vals_len, List.length_take]; congr 1; omega, Or.inr ⟨q, c, _, rfl, hb, h, hn, by unfold maxLen; omega, by rw [List.size_toArray, vals_len, hc], ?_⟩⟩
  rw [List.toList_toArray, vals_take]
theorem copy (h : StB w q ps) {d dl sl k o : Nat} {a : Addr} {rs : List PairV} (hk : min sl dl = k) (hrs : rs.length = k) (ho : o = d * 2) (hfit : d + k ≤ ps.length)
    (hsrc : ∀ j p, rs[j]? = some p → w.cell? (a.add (j * 2)) = some p.a.val ∧ w.cell? (a.add (j * 2 + 1)) = some p.b.val) :
    ∃ w', (∀ ty dc sc, (Builtin.copy_ #[57, 57] ty #[.slice (some ⟨q, o, none⟩) dl dc, .slice (some a) sl sc]).run Tryz.prog w = .ok (goInt k) w') ∧ StB w' q (ps.take d ++ rs ++ ps.drop (d + k)) ∧ Turned (fun b => b = q) w w' := by
  subst ho
  obtain ⟨i0, hi0, hz0, hz1, hz2⟩ := info_parts infoSt
  have hcl : (rs.flatMap PairV.vals).length = k * 2 := by rw [vals_len, hrs]
  have hl := run_loadCells_list (P := Tryz.prog) w a (rs.flatMap PairV.vals) (fun j v hv => by
    have hj : j < k * 2 := by rw [← hcl]; exact (List.getElem?_eq_some_iff.1 hv).1
    have hp := List.getElem?_eq_getElem (l := rs) (i := j / 2) (by omega)
    obtain ⟨v1, v2⟩ := vals_at rs (j / 2) _ hp
    obtain ⟨s1, s2⟩ := hsrc (j / 2) _ hp
    rcases Nat.mod_two_eq_zero_or_one j with e | e
    · have e2 : j / 2 * 2 = j := by omega
      rw [e2] at v1 s1
      rw [v1] at hv
      rw [s1]; exact hv
    · have e2 : j / 2 * 2 + 1 = j := by omega
      rw [e2] at v2 s2
      rw [v2] at hv
      rw [s2]; exact hv)
  have hst := run_storeCells_at Tryz.prog q (d * 2) 38 (rs.flatMap PairV.vals) 0 (ps.flatMap PairV.vals).toArray w h (by have := vals_len ps; rw [List.size_toArray]; omega) (vals_one rs)
  refine ⟨w.setRow q (((ps.flatMap PairV.vals).toArray.toList.take (d * 2 + 0) ++ rs.flatMap PairV.vals ++ (ps.flatMap PairV.vals).toArray.toList.drop (d * 2 + 0 + (rs.flatMap PairV.vals).length)).toArray), ?_, ?_, ?_⟩
  · intro ty dc sc
    rw [hcl] at hl
    simp [Builtin.copy_, run_underlying Tryz.underlying57, Builtin.lenOf, Builtin.firstCells, sizeOf, typeInfo, hi0, hz1, hk, hl, hst]
  · rw [StB, setRow_heap w q _ _ _ _ h, List.toList_toArray, Nat.add_zero, hcl, vals_take, show d * 2 + k * 2 = (d + k) * 2 by omega, vals_drop, List.flatMap_append, List.flatMap_append]
  · exact ⟨rfl, rfl, rfl, by rw [setRow_size]; exact Nat.le_refl _, fun i _ hi => setRow_other w q i _ hi⟩
end StB
end Go.Proofs.YtifopodnceopjaaGreatDoor
/- The library's slices.Insert: one row put into rows with one spare place. -/
namespace Go.Proofs.YtifopodnceopjaaGreatDoor
open Go.RowKit
set_option linter.unusedVariables false
set_option linter.unusedSimpArgs false
/-- 'copy' where its run is known. -/
theorem wpList_copy_run {P : Program} (w : World) {ops : Array Oper} {rest : List Oper} {o : Oper} {a : Act} {Q : Exit → Act → World → Prop} (hgd : o.guard = none) (d s : Operand) (t t' : TypeId)
    (ho : o.op = .call { callee := .builtin .copy, args := #[d, s], argTypes := #[t, t'] }) (v u : Value) (hd : a.eval d = v) (hs : a.eval s = u) {v' : Value} {w' : World}
    (hr : (Builtin.copy_ #[t, t'] o.type #[v, u]).run P w = .ok v' w') (h : wpList P ops Q rest (a.put o.dst v') w') : wpList P ops Q (o :: rest) a w :=
  wpList_plain hgd fun _ hK => by
    unfold Oper.wp execOp
    simp only [ho, resolve, invoke, builtin, Sem.run_bind, Sem.run_pure, Result.andThen_ok, List.map_toArray, List.map_cons, List.map_nil, hd, hs, hr]
    exact hK _ _ h
theorem step_copy_run {P : Program} {ops : Array Oper} {o : Oper} {a : Act} {w : World} {K : Act → World → Prop} {Q : Exit → Act → World → Prop} {E : Prop}
    (hg : o.guard = none) (d x : Operand) (dT sT : TypeId) (hop : o.op = Op.call { callee := Callee.builtin Builtin.copy, args := #[d, x], argTypes := #[dT, sT] })
    (v u : Value) (hd : a.eval d = v) (hx : a.eval x = u) {v' : Value} {w' : World} (hr : (Builtin.copy_ #[dT, sT] o.type #[v, u]).run P w = .ok v' w') (hK : K (a.put o.dst v') w') :
    if Region.wanted o (yielded ops a.tmps) = true then Oper.wp P o a w K Q else E := by
  have hw : Region.wanted o (yielded ops a.tmps) = true := by simp [Region.wanted, hg]
  rw [if_pos hw]
  unfold Oper.wp
  simp [execOp, hop, resolve, invoke, builtin, hd, hx, hr, Result.andThen]
  exact hK
theorem StB.overlaps {w : World} {q q2 n i lb cb : Nat} {ps rs : List PairV} (h : StB w q ps) (h2 : StB w q2 rs) (hne : q2 ≠ q) (hl : ps ≠ []) (o : Nat) (lr cr : Nat) :
    (callFunc 120 #[.slice (some ⟨q2, 0, none⟩) lr cr, .slice (some ⟨q, o, none⟩) lb cb]).run Tryz.prog w = .ok (.value (.bool false)) w := by
  have hs : ∀ w, (Go.sizeOf 38).run Tryz.prog w = .ok 2 w := fun w => by
    obtain ⟨i0, hi0, hz0, hz1, hz2⟩ := info_parts infoSt
    simp [sizeOf, typeInfo, hi0, hz1]
  have hk : (ps.flatMap PairV.vals).toArray.size ≠ 0 := by
    have := vals_len ps
    cases ps with
    | nil => exact absurd rfl hl
    | cons a l => rw [List.size_toArray, this]; simp
  rw [run_callFunc_extern Tryz.func120 (by kernel_rfl) (by kernel_rfl) (by kernel_rfl) (e := Extern.SlicesOverlaps.overlaps #[57, 57] #[4]) (by kernel_rfl),
    Lib.run_overlaps_apart w 57 4 38 Tryz.underlying57 2 hs ⟨q2, 0, none⟩ ⟨q, o, none⟩ lr cr lb cb hne 38 38 _ _ (by rw [World.shape?, show w.heap[q2]? = _ from h2]) (by rw [World.shape?, show w.heap[q]? = _ from h]) hk (h2.frozen 0) (h2.frozen _)]
  rfl
set_option maxRecDepth 100000 in
set_option maxHeartbeats 4000000 in
theorem binsert_rows (q n i q2 base : Nat) (ps : List PairV) (p : PairV) (w : World) (h : StB w q ps) (hlen : ps.length = n + 1) (hb : base ≤ q) (hv : StB w q2 [p]) (hne : q2 ≠ q) (hi : i ≤ n) (hn : n ≤ 255) :
    Calls Tryz.prog 95 #[.slice (some ⟨q, 0, none⟩) n (n + 1), .int .i64 (i : Int), .slice (some ⟨q2, 0, none⟩) 1 1] w fun e w' =>
      ∃ A' c', e = .returned (.slice A' (n + 1) c') ∧ OwnSt w' base A' (n + 1) c' (ps.take i ++ [p] ++ (ps.take n).drop i) ∧ Turned (fun b => b = q) w w' := by
  have e1 : (0 : Int) ≤ (i : Int) := Int.natCast_nonneg _
  have e2 : (i : Int) ≤ (n : Int) := by omega
  have e0 : (i : Int).toNat = i := Int.toNat_natCast _
  by_cases hin : i = n
  · subst hin
    have hown := h.own hb (n := i) (c := i + 1) (by omega) hlen (by omega)
    have hc := hv.cells (k := 0) (p := p) rfl
    have HL := Lib.hid hlen
    have HLT := Lib.hid (And.intro hb h.lt)
    have HOWN := Lib.hid hown
    have HC := Lib.hid hc
    have HN := Lib.hid hn
    clear h hv hc hown hlen hb
    go_enter Tryz.func95, Tryz.ntmps95
    go_wp2_with (at_builtin; refine wpList_append_st rfl _ _ 57 rfl p Tryz.underlying57 rfl HOWN.out rfl HC.out.1 HC.out.2 (by have := HN.out; omega) (by have := HLT.out; omega) ?_)
    intro A2 c2 w' h1 h2 _
    have H1 := Lib.hid h1
    have H2 := Lib.hid h2
    clear h1 h2
    go_wp2_with fail
    go_ret
    refine ⟨A2, c2, rfl, ?_, Turned.of_grown H2.out fun k hk => ?_⟩
    · have h3 := H1.out
      rwa [show (ps.take i).drop i = [] from List.drop_of_length_le (by rw [List.length_take]; omega), List.append_nil]
    · cases hk; rfl
  · have hov : ∀ o lb cb, (callFunc 120 #[.slice (some ⟨q2, 0, none⟩) 1 1, .slice (some ⟨q, o, none⟩) lb cb]).run Tryz.prog w = .ok (.value (.bool false)) w := fun o lb cb => h.overlaps (n := n) (i := i) hv hne (fun e => by rw [e] at hlen; simp at hlen) o 1 1
    have hw1 : IntKind.i64.wrap ((i : Int) + 1) = (i : Int) + 1 := by rw [IntKind.wrap_i64]; omega
    have hw2 : IntKind.i64.wrap ((n : Int) + 1) = (n : Int) + 1 := by rw [IntKind.wrap_i64]; omega
    have hz2 : ¬ ((i : Int) = (n : Int)) := by omega
    have hb1 : (0 : Int) ≤ (i : Int) + 1 := by omega
    have htn : ((i : Int) + 1).toNat = i + 1 := by omega
    have hb2 : ¬ (n = i) := by omega
    have hb3 : (i : Int) ≤ (n : Int) + 1 := by omega
    have hb4 : ¬ (n + 1 = i) := by omega
    have hb5 : (i : Int) + 1 ≤ (n : Int) + 1 := by omega
    have hrl : ((ps.take n).drop i).length = n - i := by rw [List.length_drop, List.length_take]; omega
    have HH := Lib.hid (And.intro h (And.intro hv hlen))
    have hd0 : Keep w w.drew := (Keep.refl w).drew
    have ha : ∀ o j, (⟨q, o, none⟩ : Addr).add j = ⟨q, o + j, none⟩ := fun o j => by unfold Addr.add; split <;> simp_all
    have ha2 : ∀ o j, (⟨q2, o, none⟩ : Addr).add j = ⟨q2, o + j, none⟩ := fun o j => by unfold Addr.add; split <;> simp_all
    obtain ⟨W1, hr1, hs1, ht1⟩ := (h.keep hd0).copy (d := i + 1) (dl := n - i) (sl := n + 1 - i) (k := n - i) (a := ⟨q, i * 2, none⟩) (rs := (ps.take n).drop i) (by omega) hrl rfl (by omega) (fun j r hj => by
      rw [List.getElem?_drop, List.getElem?_take] at hj
      split at hj
      · have := (h.keep hd0).cells hj
        rw [ha, ha, show i * 2 + j * 2 = (i + j) * 2 by omega, show i * 2 + (j * 2 + 1) = (i + j) * 2 + 1 by omega]; exact this
      · cases hj)
    have hp1 : ps.take (i + 1) ++ (ps.take n).drop i ++ ps.drop (i + 1 + (n - i)) = ps.take (i + 1) ++ (ps.take n).drop i := by
      rw [List.drop_of_length_le (l := ps) (i := i + 1 + (n - i)) (by omega), List.append_nil]
    rw [hp1] at hs1
    have hv1 : StB W1 q2 [p] := (hv.keep hd0).turned ht1 hne
    have hl1 : (ps.take (i + 1)).length = i + 1 := by rw [List.length_take]; omega
    obtain ⟨W2, hr2, hs2, ht2⟩ := hs1.copy (d := i) (dl := n + 1 - i) (sl := 1) (k := 1) (a := ⟨q2, 0, none⟩) (rs := [p]) (by omega) rfl rfl (by rw [List.length_append, hl1, hrl]; omega) (fun j r hj => by
      obtain rfl : j = 0 := by
        have := (List.getElem?_eq_some_iff.1 hj).1
        simp at this; exact this
      have := hv1.cells hj
      rw [ha2, ha2]; exact this)
    have hp2 : (ps.take (i + 1) ++ (ps.take n).drop i).take i ++ [p] ++ (ps.take (i + 1) ++ (ps.take n).drop i).drop (i + 1) = ps.take i ++ [p] ++ (ps.take n).drop i := by
      rw [List.take_append_of_le_length (by omega), List.take_take, show min i (i + 1) = i by omega, List.drop_append, List.drop_of_length_le (l := ps.take (i + 1)) (by omega), hl1, Nat.sub_self]; rfl
    rw [hp2] at hs2
    have HF := Lib.hid (And.intro hs2 (And.intro hb (Turned.trans (F := fun b => b = q) (Turned.trans (F := fun b => b = q) (Turned.of_keep hd0) ht1 fun _ e => Or.inl e) ht2 fun _ e => Or.inl e)))
    have HLN : Hid ((ps.take i ++ [p] ++ (ps.take n).drop i).length = n + 1) := by
      show _ = _
      rw [List.length_append, List.length_append, List.length_take, hrl, List.length_singleton]; omega
    clear h hv hs1 ht1 hv1 hs2 ht2 hp1 hp2 hl1 hrl ha ha2 hd0 hb hlen
    go_enter Tryz.func95, Tryz.ntmps95
    go_wp2_with (simp only [hov])
    go_region_law (refine step_copy_run rfl _ _ 57 57 rfl _ _ (by simp [Act.eval, Act.put]) (by simp [Act.eval, Act.put]) (hr1 _ _ _) ?_)
    go_wp2_with (at_builtin; refine wpList_copy_run _ rfl _ _ 57 57 rfl _ _ rfl rfl (hr2 _ _ _) ?_)
    go_ret
    have := HF.out.1.own (base := base) (n := n + 1) (c := n + 1) HF.out.2.1 (Nat.le_refl _) HLN.out (by omega)
    rw [List.take_of_length_le (by rw [HLN.out]; exact Nat.le_refl _)] at this
    exact ⟨_, _, rfl, this, HF.out.2.2⟩
end Go.Proofs.YtifopodnceopjaaGreatDoor
/- The landed code of layer 7: a new row is laid. -/
namespace Go.Proofs.YtifopodnceopjaaGreatDoor
open Go.RowKit Lin
set_option linter.unusedVariables false
set_option linter.unusedSimpArgs false
/-- A row, cleared by another one at L (both sides). -/
def clr (g s L : Nat) (rx ry : List Nat) (p : PairV) : List Nat × List Nat := (vAddS g p.a.xs rx (p.a.xs.getD L 0), vAddS s p.b.xs ry (p.a.xs.getD L 0))
/-- Rows being laid anew. -/
structure LayI (w wr : World) (F : Nat → Prop) (q g s L n k : Nat) (r : PairV) (ps qs : List PairV) : Prop where
  base : w.heap.size = q
  row : wr.heap[q]? = some (.cells #[r.a.val, r.b.val] 38 (0, 0))
  st : StB wr (q + 1) (qs ++ List.replicate (n + 1 - k) PairV.zero)
  len : qs.length = k
  lies : ∀ p ∈ qs, (LiesIn wr (fun b => F b ∨ (q + 2 ≤ b ∧ b < wr.heap.size)) p.a ∧ LiesIn wr (fun b => F b ∨ (q + 2 ≤ b ∧ b < wr.heap.size)) p.b) ∧ p.a.n = g ∧ p.b.n = s
  xs : qs.map (fun p => (p.a.xs, p.b.xs)) = (ps.take k).map (clr g s L r.a.xs r.b.xs)
  keep : Keep w wr
section
variable {w wr w1 w2 : World} {F : Nat → Prop} {q g s L n k : Nat} {r p : PairV} {ps qs : List PairV}
theorem LayI.later (h : LayI w wr F q g s L n k r ps qs) (kp : Keep wr w2) : LayI w w2 F q g s L n k r ps qs :=
  ⟨h.base, (kp.block _ (Array.getElem?_eq_some_iff.1 h.row).1).trans h.row, h.st.keep kp, h.len, fun p hp => by
    obtain ⟨⟨a, b⟩, c⟩ := h.lies p hp
    have hm : ∀ b, (F b ∨ (q + 2 ≤ b ∧ b < wr.heap.size)) → (F b ∨ (q + 2 ≤ b ∧ b < w2.heap.size)) := fun b hb => hb.imp id fun e => ⟨e.1, Nat.lt_of_lt_of_le e.2 kp.size⟩
    exact ⟨⟨(a.turned (Turned.of_keep (F := fun _ => False) kp) fun _ _ e => e).mono hm, (b.turned (Turned.of_keep (F := fun _ => False) kp) fun _ _ e => e).mono hm⟩, c⟩, h.xs, h.keep.trans kp⟩
theorem LayI.set (h : LayI w wr F q g s L n k r ps qs) (hF : ∀ b, F b → b < q) (hk : k < n) {p' : PairV} (hp : ps[k]? = some p)
    (hl : (LiesIn wr (fun b => F b ∨ (q + 2 ≤ b ∧ b < wr.heap.size)) p'.a ∧ LiesIn wr (fun b => F b ∨ (q + 2 ≤ b ∧ b < wr.heap.size)) p'.b) ∧ p'.a.n = g ∧ p'.b.n = s)
    (hx : (p'.a.xs, p'.b.xs) = clr g s L r.a.xs r.b.xs p) : LayI w ((wr.setCell ⟨q + 1, k * 2, none⟩ p'.a.val).setCell ⟨q + 1, k * 2 + 1, none⟩ p'.b.val) F q g s L n (k + 1) r ps (qs ++ [p']) := by
  have T : Turned (fun b => b = q + 1) wr ((wr.setCell ⟨q + 1, k * 2, none⟩ p'.a.val).setCell ⟨q + 1, k * 2 + 1, none⟩ p'.b.val) :=
    (Turned.set (F := fun b => b = q + 1) wr ⟨q + 1, k * 2, none⟩ p'.a.val rfl).trans (Turned.set (F := fun b => b = q + 1) _ ⟨q + 1, k * 2 + 1, none⟩ p'.b.val rfl) fun _ e => Or.inl e
  have hm : ∀ b, (F b ∨ (q + 2 ≤ b ∧ b < wr.heap.size)) → (F b ∨ (q + 2 ≤ b ∧ b < ((wr.setCell ⟨q + 1, k * 2, none⟩ p'.a.val).setCell ⟨q + 1, k * 2 + 1, none⟩ p'.b.val).heap.size)) := fun b hb => hb.imp id fun e => ⟨e.1, Nat.lt_of_lt_of_le e.2 T.size⟩
  have hd : ∀ b, (F b ∨ (q + 2 ≤ b ∧ b < wr.heap.size)) → ¬ b = q + 1 := fun b hb => by
    rcases hb with e | e
    · have := hF b e; omega
    · omega
  refine ⟨h.base, (T.block q (by have := (Array.getElem?_eq_some_iff.1 h.row).1; exact this) (by omega)).trans h.row, ?_, by rw [List.length_append, h.len]; rfl, fun x hxm => ?_, ?_, T.keep h.keep fun i e => by rw [e, h.base]; omega⟩
  · have e := h.st.set k p'
    rw [List.set_append_right _ _ (by rw [h.len]; exact Nat.le_refl _), h.len, Nat.sub_self, show n + 1 - k = (n + 1 - (k + 1)) + 1 by omega, List.replicate_succ, List.set_cons_zero] at e
    rwa [List.append_assoc]
  · have key : ((LiesIn wr (fun b => F b ∨ (q + 2 ≤ b ∧ b < wr.heap.size)) x.a ∧ LiesIn wr (fun b => F b ∨ (q + 2 ≤ b ∧ b < wr.heap.size)) x.b) ∧ x.a.n = g ∧ x.b.n = s) := by
      rcases List.mem_append.1 hxm with e | e
      · exact h.lies x e
      · rw [List.mem_singleton.1 e]; exact hl
    exact ⟨⟨(key.1.1.turned T hd).mono hm, (key.1.2.turned T hd).mono hm⟩, key.2⟩
  · rw [List.map_append, h.xs, List.take_add_one, hp, Option.toList_some, List.map_append]
    congr 1
    show [(p'.a.xs, p'.b.xs)] = [_]
    rw [hx]
end
set_option maxRecDepth 100000 in
set_option maxHeartbeats 4000000 in
theorem blay_any {w : World} {F R : Nat → Prop} {b g s n c : Nat} {B : List (List Nat)} {A : Option Addr} {ps : List PairV} (h : BasA w F b g s B A n c ps) (r : PairV) (L : Nat) (hL : L < g) (hr : LiesIn w R r.a ∧ LiesIn w R r.b ∧ r.a.n = g ∧ r.b.n = s) (hR : ∀ k, R k → k < w.heap.size) :
    Calls Tryz.prog 61 #[.pointer (some ⟨b, 0, none⟩), r.agg, .int .i64 (L : Int)] w fun e w' => ∃ (i : Nat) (A' : Option Addr) (c' : Nat) (qs : List PairV) (w6 : World), e = .returned (.tuple #[]) ∧ i ≤ n ∧ (∀ k, k < i → ∃ j, j < L ∧ (B.getD k []).getD j 0 ≠ 0) ∧ (i < n → ∀ j, j < L → (B.getD i []).getD j 0 = 0) ∧
      qs.map (fun p => (p.a.xs, p.b.xs)) = ps.map (clr g s L r.a.xs r.b.xs) ∧ (∀ p ∈ qs, (LiesIn w6 (fun b => F b ∨ (w.heap.size ≤ b ∧ b < w6.heap.size)) p.a ∧ LiesIn w6 (fun b => F b ∨ (w.heap.size ≤ b ∧ b < w6.heap.size)) p.b) ∧ p.a.n = g ∧ p.b.n = s) ∧
      OwnSt w6 w.heap.size A' (n + 1) c' (qs.take i ++ [r] ++ qs.drop i) ∧ Keep w w6 ∧ w' = w6.setCell ⟨b, 2, none⟩ (.slice A' (n + 1) c') := by
  obtain ⟨⟨A1, n1, c1, x1⟩, ⟨A2, n2, c2, x2⟩⟩ := r
  obtain ⟨r1, r2, r3, r4⟩ := hr
  simp only at r3 r4
  obtain rfl : n1 = g := r3
  obtain rfl : n2 = s := r4
  show Calls _ _ #[_, .agg #[.slice A1 n1 c1, .slice A2 n2 c2], _] _ _
  obtain ⟨⟨q, hq⟩⟩ : Nonempty (∃ q, w.heap.size = q) := ⟨_, rfl⟩
  have hb := h.lt b h.at_
  have hbq : b < q := by omega
  have hn : n ≤ 255 := by have := h.n_le; have := h.g2; omega
  have hw1 : IntKind.i64.wrap ((n : Int) + 1) = (n : Int) + 1 := by rw [IntKind.wrap_i64]; omega
  have mks := fun w => run_make_st n (n + 1) (by omega) (by omega) w
  rw [show ((n + 1 : Nat) : Int) = (n : Int) + 1 by omega] at mks
  have hc2' : (w.alloc (.cells #[.slice A1 n1 c1, .slice A2 n2 c2] 38)).cell? ⟨b, 2, none⟩ = some (.slice A n c) := (World.cell?_alloc_past _ _ _ hb).trans h.c2
  have hF : ∀ k, F k → k < q := fun k hk => by have := h.lt k hk; omega
  have HF := Lib.hid hF
  have H := Lib.hid h
  have HR := Lib.hid (And.intro r1 (And.intro r2 hR))
  have HB := Lib.hid (And.intro hb (And.intro hbq h.c2))
  have h0 : LayI w (((w.alloc (.cells #[.slice A1 n1 c1, .slice A2 n2 c2] 38)).alloc (.cells ((List.replicate (n + 1) PairV.zero).flatMap PairV.vals).toArray 38)).drew) F q n1 n2 L n 0 ⟨⟨A1, n1, c1, x1⟩, ⟨A2, n2, c2, x2⟩⟩ ps [] := by
    subst hq
    have k1 : Keep (w.alloc (.cells #[.slice A1 n1 c1, .slice A2 n2 c2] 38)) (((w.alloc (.cells #[.slice A1 n1 c1, .slice A2 n2 c2] 38)).alloc (.cells ((List.replicate (n + 1) PairV.zero).flatMap PairV.vals).toArray 38)).drew) := ((Keep.refl _).alloc _ _).drew
    refine ⟨rfl, (k1.block _ (by simp)).trans (heap_alloc_new _ _), ?_, rfl, fun p hp => by simp at hp, by simp, ((Keep.refl w).alloc _ _).trans k1⟩
    have e := StB.made (w.alloc (.cells #[.slice A1 n1 c1, .slice A2 n2 c2] 38)) (n + 1)
    rw [show (w.alloc (.cells #[.slice A1 n1 c1, .slice A2 n2 c2] 38)).heap.size = w.heap.size + 1 by simp] at e
    exact e
  have H0 := Lib.hid h0
  have HQ := Lib.hid hq
  clear h h0 r1 r2 hR hF hb
  go_enter Tryz.func61, Tryz.ntmps61
  go_wp2_with fail
  go_region
  clear hc2' mks
  change Hid (LayI w (((w.alloc (.cells #[.slice A1 n1 c1, .slice A2 n2 c2] 38)).alloc (.cells ((List.replicate (n + 1) PairV.zero).flatMap PairV.vals).toArray 38)).drew) F q n1 n2 L n 0 _ ps []) at H0
  generalize (((w.alloc (.cells #[.slice A1 n1 c1, .slice A2 n2 c2] 38)).alloc (.cells ((List.replicate (n + 1) PairV.zero).flatMap PairV.vals).toArray 38)).drew) = w4 at *
  have c2' := (H0.out.keep.cell (p := ⟨b, 2, none⟩) HB.out.1).trans HB.out.2.2
  go_wp2_with fail
  clear c2' hq
  go_loopw [26] (fun i wr => ∃ (k : Nat) (qs : List PairV), k ≤ n ∧ i = .int .i64 k ∧ LayI w wr F q n1 n2 L n k ⟨⟨A1, n1, c1, x1⟩, ⟨A2, n2, c2, x2⟩⟩ ps qs) (fun i _ => n - (intOf i).toNat)
  case atStart => exact ⟨0, [], by omega, rfl, H0.out⟩
  case round =>
    obtain ⟨k, qs, hk, rfl, hI⟩ := hrel
    have HI := Lib.hid hI
    clear hI H0
    by_cases hlt : k < n
    · obtain ⟨b2, o2, p, rfl, hb2, hp, hc1, hc3, hl2, hl3⟩ := (H.out.st.keep HI.out.keep).at_ hlt
      have hsz := H.out.size p (List.mem_of_getElem? hp)
      obtain ⟨⟨pA, pn, pc, px⟩, ⟨sA, sn, sc, sx⟩⟩ := p
      obtain ⟨z1, z2⟩ := hsz
      simp only at z1 z2
      obtain rfl : pn = n1 := z1
      obtain rfl : sn = n2 := z2
      have e1 : (0 : Int) ≤ (k : Int) := Int.natCast_nonneg _
      have e2 : (k : Int) < (n : Int) := by omega
      have e3 : (k : Int) < (n : Int) + 1 := by omega
      have HP := Lib.hid (And.intro hp (And.intro hl2 hl3))
      clear hp hl2 hl3 hb2
      go_upto_region 5 with fail
      clear hc1 hc3
      have hkw : Keep wr (wr.alloc (.cells #[.slice pA pn pc, .slice sA sn sc] 38)) := (Keep.refl wr).alloc _ _
      have hnew := heap_alloc_new wr (.cells #[.slice pA pn pc, .slice sA sn sc] 38)
      have hW : Hid (wr.heap.size < (wr.alloc (.cells #[.slice pA pn pc, .slice sA sn sc] 38)).heap.size) := by show _ < _; simp
      obtain ⟨q5, hq5⟩ : ∃ q5, wr.heap.size = q5 := ⟨_, rfl⟩
      have HQ5 := Lib.hid hq5
      rw [hq5] at hnew
      simp only [hq5]
      generalize (wr.alloc (.cells #[.slice pA pn pc, .slice sA sn sc] 38)) = w5 at *
      have H5 := Lib.hid (HI.out.later hkw)
      have HKW := Lib.hid hkw
      have d0 : w5.cell? ⟨q5, 0, none⟩ = some (.slice pA pn pc) := cell_of_row _ _ _ _ _ _ hnew
      have d1 : w5.cell? ⟨q5, 1, none⟩ = some (.slice sA sn sc) := cell_of_row _ _ _ _ _ _ hnew
      have d2 : w5.cell? ⟨q, 0, none⟩ = some (.slice A1 pn c1) := cell_of_row _ _ _ _ _ _ H5.out.row
      have d3 : w5.cell? ⟨q, 1, none⟩ = some (.slice A2 sn c2) := cell_of_row _ _ _ _ _ _ H5.out.row
      clear hnew hkw hq5
      go_wp2_with fail
      refine (bcleared_any pn sn L ⟨⟨pA, pn, pc, px⟩, ⟨sA, sn, sc, sx⟩⟩ ⟨⟨A1, pn, c1, x1⟩, ⟨A2, sn, c2, x2⟩⟩ F _ ⟨HP.out.2.1.turned (Turned.of_keep (F := fun _ => False) HKW.out) fun _ _ e => e, HP.out.2.2.turned (Turned.of_keep (F := fun _ => False) HKW.out) fun _ _ e => e, rfl, rfl⟩
        ⟨((HR.out.1.bytes HR.out.2.2).below (Below.mono H5.out.keep (Nat.le_refl _))).mono H5.out.keep.size, ((HR.out.2.1.bytes HR.out.2.2).below (Below.mono H5.out.keep (Nat.le_refl _))).mono H5.out.keep.size, rfl, rfl⟩
        (fun k hk => Nat.lt_of_lt_of_le (H.out.lt k hk) H5.out.keep.size) hL H.out.g2 H.out.s2).mono ?_
      rintro e w6 ⟨⟨⟨A5, n5, c5, x5⟩, ⟨A6, n6, c6, x6⟩⟩, he, hC⟩
      replace he : e = .returned (.agg #[.slice A5 n5 c5, .slice A6 n6 c6]) := he
      subst he
      have HC := Lib.hid hC
      have H6 := Lib.hid (H5.out.later hC.keep)
      have z0 := H6.out.st.cells (k := k) (p := PairV.zero) (by rw [List.getElem?_append_right (by rw [H6.out.len]; exact Nat.le_refl _), H6.out.len, Nat.sub_self, show n + 1 - k = (n - k) + 1 by omega]; rfl)
      have f0 := H6.out.st.frozen (k * 2)
      have f1 := H6.out.st.frozen (k * 2 + 1)
      obtain ⟨z1, z2⟩ := z0
      change _ = some (Value.slice none 0 0) at z1
      change _ = some (Value.slice none 0 0) at z2
      clear hC d0 d1 d2 d3
      go_wp2_with fail
      go_roundw
      case rel =>
        refine ⟨k + 1, _, by omega, by go_num, H6.out.set HF.out hlt HP.out.1 (p' := ⟨⟨A5, n5, c5, x5⟩, ⟨A6, n6, c6, x6⟩⟩) ⟨⟨HC.out.a.mono ?_, HC.out.b.mono ?_⟩, HC.out.an, HC.out.bn⟩ ?_⟩
        · rintro k (hk | hk)
          · exact Or.inl hk
          · refine Or.inr ⟨?_, hk.2⟩
            have h1 := hk.1
            have h2 := hW.out
            have h3 := HI.out.st.lt
            omega
        · rintro k (hk | hk)
          · exact Or.inl hk
          · refine Or.inr ⟨?_, hk.2⟩
            have h1 := hk.1
            have h2 := hW.out
            have h3 := HI.out.st.lt
            omega
        · show (_, _) = (_, _)
          rw [show x5 = _ from HC.out.ax, show x6 = _ from HC.out.bx]
      case measure => simp [intOf]; omega
    · obtain rfl : k = n := by omega
      have HC2 : Hid (wr.cell? ⟨b, 2, none⟩ = some (.slice A k c)) := (HI.out.keep.cell (p := ⟨b, 2, none⟩) HB.out.1).trans HB.out.2.2
      go_wp2_with fail
      have u0 : wr.cell? ⟨q, 0, none⟩ = some (.slice A1 n1 c1) := cell_of_row _ _ _ _ _ _ HI.out.row
      have u1 : wr.cell? ⟨q, 1, none⟩ = some (.slice A2 n2 c2) := cell_of_row _ _ _ _ _ _ HI.out.row
      have HQL : Hid (q < wr.heap.size ∧ q + 1 < wr.heap.size) := ⟨(Array.getElem?_eq_some_iff.1 HI.out.row).1, HI.out.st.lt⟩
      refine wp_region_noPanic ?_
      refine wp_region_held_drew (S := fun wz => wz.cell? ⟨q, 0, none⟩ = some (.slice A1 n1 c1) ∧ wz.cell? ⟨q, 1, none⟩ = some (.slice A2 n2 c2)) (by kernel_rfl) ⟨u0, u1⟩ (fun hHeld => ?_)
      refine wpAnyH_take (i := 0) (v := ?_) rfl (by kernel_rfl) (by kernel_rfl) (by kernel_rfl) (fun _ _ _ h => h) (Or.inl ⟨by rfl, ?_⟩) hHeld ?_
      rotate_left
      · intro wq hSw
        go_simp
        all_goals with_reducible rfl
      try simp only [Act.put, List.getElem_toArray, List.getElem_cons_succ, List.getElem_cons_zero, List.setIfInBounds_toArray, List.set_cons_zero, List.set_cons_succ]
      refine wpAnyH_take (i := 1) (v := ?_) rfl (by kernel_rfl) (by kernel_rfl) (by kernel_rfl) (fun _ _ _ h => h) (Or.inl ⟨by rfl, ?_⟩) hHeld ?_
      rotate_left
      · intro wq hSw
        go_simp
        all_goals with_reducible rfl
      try simp only [Act.put, List.getElem_toArray, List.getElem_cons_succ, List.getElem_cons_zero, List.setIfInBounds_toArray, List.set_cons_zero, List.set_cons_succ]
      refine wpAnyH_take (i := 2) (v := ?_) rfl (by kernel_rfl) (by kernel_rfl) (by kernel_rfl) (fun _ _ _ h => h) (Or.inl ⟨by rfl, ?_⟩) hHeld ?_
      rotate_left
      · intro wq hSw
        go_simp
        all_goals with_reducible rfl
      try simp only [Act.put, List.getElem_toArray, List.getElem_cons_succ, List.getElem_cons_zero, List.setIfInBounds_toArray, List.set_cons_zero, List.set_cons_succ]
      refine wpAnyH_take (i := 3) (v := ?_) rfl (by kernel_rfl) (by kernel_rfl) (by kernel_rfl) (fun _ _ _ h => h) (Or.inl ⟨by rfl, ?_⟩) hHeld ?_
      rotate_left
      · intro wq hSw
        go_simp
        all_goals with_reducible rfl
      try simp only [Act.put, List.getElem_toArray, List.getElem_cons_succ, List.getElem_cons_zero, List.setIfInBounds_toArray, List.set_cons_zero, List.set_cons_succ]
      refine wpAnyH_take (i := 5) (v := ?_) rfl (by kernel_rfl) (by kernel_rfl) (by kernel_rfl) (fun _ _ _ h => h) (Or.inl ⟨by rfl, ?_⟩) hHeld ?_
      rotate_left
      · intro wq hSw
        have q0 := hSw.1
        have q1 := hSw.2
        go_simp
        all_goals with_reducible rfl
      try simp only [Act.put, List.getElem_toArray, List.getElem_cons_succ, List.getElem_cons_zero, List.setIfInBounds_toArray, List.set_cons_zero, List.set_cons_succ]
      refine wpAnyH_ready (rs := [4, 6]) (by kernel_rfl) (by simp) ?_
      refine AllReadyH.cons rfl (fun K hK => ?_) (AllReadyH.cons rfl (fun K hK => ?_) AllReadyH.nil)
      · go_simp
        refine (bplace_any (H.out.keep (HI.out.keep.trans (Keep.refl wr).drew)) L hL).mono ?_
        rintro e w7 ⟨i, rfl, hi1, hi2, hi3, k7⟩
        have K7 : Hid (Keep wr w7) := ((Keep.refl wr).drew).trans k7
        have u0' := (K7.out.cell (p := ⟨q, 0, none⟩) HQL.out.1).trans u0
        have u1' := (K7.out.cell (p := ⟨q, 1, none⟩) HQL.out.1).trans u1
        have HI2 := Lib.hid (And.intro hi1 (And.intro hi2 hi3))
        refine hK.out _ _ ⟨u0', u1'⟩ (fun hHeld => ?_)
        clear hK K
        try simp only [Act.put, List.getElem_toArray, List.getElem_cons_succ, List.getElem_cons_zero, List.setIfInBounds_toArray, List.set_cons_zero, List.set_cons_succ]
        refine wpAnyH_ready (rs := [6]) (by kernel_rfl) (by simp) ?_
        refine AllReadyH.cons rfl (fun K hK => ?_) AllReadyH.nil
        go_simp
        obtain ⟨q2, hq2⟩ : ∃ q2, w7.heap.size = q2 := ⟨_, rfl⟩
        have K8 : Hid (Keep wr (w7.alloc (.cells #[.slice A1 n1 c1, .slice A2 n2 c2] 38))) := (K7.out).alloc _ _
        have V8 : Hid (StB (w7.alloc (.cells #[.slice A1 n1 c1, .slice A2 n2 c2] 38)) q2 [⟨⟨A1, n1, c1, x1⟩, ⟨A2, n2, c2, x2⟩⟩]) := by
          show StB _ _ _
          rw [← hq2]; exact heap_alloc_new _ _
        have HQ2 : Hid (q2 ≠ q + 1) := by
          show q2 ≠ q + 1
          have h1 := K7.out.size
          have h2 := HQL.out.2
          omega
        simp only [hq2]
        clear hq2
        generalize (w7.alloc (.cells #[.slice A1 n1 c1, .slice A2 n2 c2] 38)) = w8 at *
        have u0'' := (K8.out.cell (p := ⟨q, 0, none⟩) HQL.out.1).trans u0
        have u1'' := (K8.out.cell (p := ⟨q, 1, none⟩) HQL.out.1).trans u1
        refine hK.out _ _ ⟨u0'', u1''⟩ (fun hHeld => ?_)
        clear hK K
        try simp only [Act.put, List.getElem_toArray, List.getElem_cons_succ, List.getElem_cons_zero, List.setIfInBounds_toArray, List.set_cons_zero, List.set_cons_succ]
        refine wpAnyH_ready (rs := [7]) (by kernel_rfl) (by simp) ?_
        refine AllReadyH.cons rfl (fun K hK => ?_) AllReadyH.nil
        go_simp
        refine (binsert_rows (q + 1) k i q2 q (qs ++ List.replicate (k + 1 - k) PairV.zero) ⟨⟨A1, n1, c1, x1⟩, ⟨A2, n2, c2, x2⟩⟩ _ (HI.out.st.keep K8.out) (by rw [List.length_append, List.length_replicate, HI.out.len]; omega) (by omega) V8.out HQ2.out HI2.out.1 hn).mono ?_
        rintro e w9 ⟨A9, c9, rfl, o9, t9⟩
        have e9 : (qs ++ List.replicate (k + 1 - k) PairV.zero).take i ++ [⟨⟨A1, n1, c1, x1⟩, ⟨A2, n2, c2, x2⟩⟩] ++ ((qs ++ List.replicate (k + 1 - k) PairV.zero).take k).drop i = qs.take i ++ [⟨⟨A1, n1, c1, x1⟩, ⟨A2, n2, c2, x2⟩⟩] ++ qs.drop i := by
          have ea : (qs ++ List.replicate (k + 1 - k) PairV.zero).take i = qs.take i := List.take_append_of_le_length (by rw [HI.out.len]; exact HI2.out.1)
          have eb : (qs ++ List.replicate (k + 1 - k) PairV.zero).take k = qs := by rw [List.take_append_of_le_length (by rw [HI.out.len]; exact Nat.le_refl _), List.take_of_length_le (by rw [HI.out.len]; exact Nat.le_refl _)]
          rw [ea, eb]
        rw [e9] at o9
        have O9 := Lib.hid o9
        have T9 := Lib.hid t9
        have y0 := (t9.cell u0'' (by show ¬ q = q + 1; omega))
        have y1 := (t9.cell u1'' (by show ¬ q = q + 1; omega))
        have c9' : w9.cell? ⟨b, 2, none⟩ = some (.slice A k c) := T9.out.cell ((K8.out.cell (p := ⟨b, 2, none⟩) (Nat.lt_of_lt_of_le HB.out.1 HI.out.keep.size)).trans HC2.out) (by show ¬ b = q + 1; omega)
        have f9 : w9.frozen? ⟨b, 2, none⟩ = false := by
          have e := (T9.out.block b (Nat.lt_of_lt_of_le HB.out.1 (HI.out.keep.trans K8.out).size) (by omega)).trans (((HI.out.keep.trans K8.out).block b HB.out.1).trans H.out.block)
          simp [World.frozen?, e]
        clear o9 t9 e9
        refine hK.out _ _ ⟨y0, y1⟩ (fun hHeld => ?_)
        clear hK K
        try simp only [Act.put, List.getElem_toArray, List.getElem_cons_succ, List.getElem_cons_zero, List.setIfInBounds_toArray, List.set_cons_zero, List.set_cons_succ]
        refine wpAnyH_take (i := 8) (v := ?_) rfl (by kernel_rfl) (by kernel_rfl) (by kernel_rfl) (fun _ _ _ h => h) (Or.inl ⟨by rfl, ?_⟩) hHeld ?_
        rotate_left
        · intro wq hSw
          go_simp
          all_goals with_reducible rfl
        try simp only [Act.put, List.getElem_toArray, List.getElem_cons_succ, List.getElem_cons_zero, List.setIfInBounds_toArray, List.set_cons_zero, List.set_cons_succ]
        refine wpAnyH_take (i := 9) (v := ?_) rfl (by kernel_rfl) (by kernel_rfl) (by kernel_rfl) (fun _ _ _ h => h) (Or.inl ⟨by rfl, ?_⟩) hHeld ?_
        rotate_left
        · intro wq hSw
          go_simp
          all_goals with_reducible rfl
        try simp only [Act.put, List.getElem_toArray, List.getElem_cons_succ, List.getElem_cons_zero, List.setIfInBounds_toArray, List.set_cons_zero, List.set_cons_succ]
        refine wpAnyH_ready (rs := [10]) (by kernel_rfl) (by simp) ?_
        refine AllReadyH.cons rfl (fun K hK => ?_) AllReadyH.nil
        go_simp
        have y0b : (w9.setCell ⟨b, 2, none⟩ (.slice A9 (k + 1) c9)).cell? ⟨q, 0, none⟩ = some (.slice A1 n1 c1) := by rw [World.cell?_setCell_far _ _ _ _ (by show b ≠ q; omega)]; exact y0
        have y1b : (w9.setCell ⟨b, 2, none⟩ (.slice A9 (k + 1) c9)).cell? ⟨q, 1, none⟩ = some (.slice A2 n2 c2) := by rw [World.cell?_setCell_far _ _ _ _ (by show b ≠ q; omega)]; exact y1
        refine hK.out _ _ ⟨y0b, y1b⟩ (fun hHeld => ?_)
        clear hK K
        try simp only [Act.put, List.getElem_toArray, List.getElem_cons_succ, List.getElem_cons_zero, List.setIfInBounds_toArray, List.set_cons_zero, List.set_cons_succ]
        refine wpAnyH_done (by kernel_rfl) ?_ _
        refine NoPanic.normal ?_
        clear hHeld y0 y1 y0b y1b c9' f9
        go_wp2_with fail
        go_end0
        have KT : Keep w w9 := T9.out.keep (HI.out.keep.trans K8.out) (fun i e => by rw [e, HQ.out]; omega)
        have hm : ∀ p ∈ qs, (LiesIn w9 (fun b => F b ∨ (w.heap.size ≤ b ∧ b < w9.heap.size)) p.a ∧ LiesIn w9 (fun b => F b ∨ (w.heap.size ≤ b ∧ b < w9.heap.size)) p.b) ∧ p.a.n = n1 ∧ p.b.n = n2 := fun p hp => by
          obtain ⟨⟨a, d⟩, z⟩ := (HI.out.later K8.out).lies p hp
          have hd : ∀ b, (F b ∨ (q + 2 ≤ b ∧ b < w8.heap.size)) → ¬ b = q + 1 := fun b hb => by
            rcases hb with e | e
            · have := HF.out b e; omega
            · omega
          have hm : ∀ b, (F b ∨ (q + 2 ≤ b ∧ b < w8.heap.size)) → (F b ∨ (w.heap.size ≤ b ∧ b < w9.heap.size)) := fun b hb => hb.imp id fun e => ⟨by rw [HQ.out]; omega, Nat.lt_of_lt_of_le e.2 T9.out.size⟩
          exact ⟨⟨(a.turned T9.out hd).mono hm, (d.turned T9.out hd).mono hm⟩, z⟩
        have hx := HI.out.xs
        rw [List.take_of_length_le (l := ps) (by rw [H.out.st.1]; exact Nat.le_refl _)] at hx
        exact ⟨i, A9, c9, qs, w9, rfl, HI2.out.1, HI2.out.2.1, HI2.out.2.2, hx, hm, by rw [HQ.out]; exact O9.out, KT, rfl⟩
      · go_simp
        obtain ⟨q2, hq2⟩ : ∃ q2, wr.heap.size = q2 := ⟨_, rfl⟩
        have K8 : Hid (Keep wr ((wr.alloc (.cells #[.slice A1 n1 c1, .slice A2 n2 c2] 38)).drew)) := ((Keep.refl wr).alloc _ _).drew
        have V8 : Hid (StB ((wr.alloc (.cells #[.slice A1 n1 c1, .slice A2 n2 c2] 38)).drew) q2 [⟨⟨A1, n1, c1, x1⟩, ⟨A2, n2, c2, x2⟩⟩]) := by
          show StB _ _ _
          rw [← hq2]; exact heap_alloc_new _ _
        have HQ2 : Hid (q2 ≠ q + 1) := by
          show q2 ≠ q + 1
          have h1 := (Keep.refl wr).size
          have h2 := HQL.out.2
          omega
        simp only [hq2]
        clear hq2
        generalize ((wr.alloc (.cells #[.slice A1 n1 c1, .slice A2 n2 c2] 38)).drew) = w8 at *
        have u0'' := (K8.out.cell (p := ⟨q, 0, none⟩) HQL.out.1).trans u0
        have u1'' := (K8.out.cell (p := ⟨q, 1, none⟩) HQL.out.1).trans u1
        refine hK.out _ _ ⟨u0'', u1''⟩ (fun hHeld => ?_)
        clear hK K
        try simp only [Act.put, List.getElem_toArray, List.getElem_cons_succ, List.getElem_cons_zero, List.setIfInBounds_toArray, List.set_cons_zero, List.set_cons_succ]
        refine wpAnyH_ready (rs := [4]) (by kernel_rfl) (by simp) ?_
        refine AllReadyH.cons rfl (fun K hK => ?_) AllReadyH.nil
        go_simp
        refine (bplace_any (H.out.keep (HI.out.keep.trans K8.out)) L hL).mono ?_
        rintro e w7 ⟨i, rfl, hi1, hi2, hi3, k7⟩
        have K7 : Hid (Keep wr w7) := (K8.out).trans k7
        have u0' := (K7.out.cell (p := ⟨q, 0, none⟩) HQL.out.1).trans u0
        have u1' := (K7.out.cell (p := ⟨q, 1, none⟩) HQL.out.1).trans u1
        have HI2 := Lib.hid (And.intro hi1 (And.intro hi2 hi3))
        have V7 := Lib.hid (V8.out.keep k7)
        clear u0'' u1''
        have u0'' := u0'
        have u1'' := u1'
        refine hK.out _ _ ⟨u0', u1'⟩ (fun hHeld => ?_)
        clear hK K
        try simp only [Act.put, List.getElem_toArray, List.getElem_cons_succ, List.getElem_cons_zero, List.setIfInBounds_toArray, List.set_cons_zero, List.set_cons_succ]
        refine wpAnyH_ready (rs := [7]) (by kernel_rfl) (by simp) ?_
        refine AllReadyH.cons rfl (fun K hK => ?_) AllReadyH.nil
        go_simp
        refine (binsert_rows (q + 1) k i q2 q (qs ++ List.replicate (k + 1 - k) PairV.zero) ⟨⟨A1, n1, c1, x1⟩, ⟨A2, n2, c2, x2⟩⟩ _ (HI.out.st.keep K7.out) (by rw [List.length_append, List.length_replicate, HI.out.len]; omega) (by omega) V7.out HQ2.out HI2.out.1 hn).mono ?_
        rintro e w9 ⟨A9, c9, rfl, o9, t9⟩
        have e9 : (qs ++ List.replicate (k + 1 - k) PairV.zero).take i ++ [⟨⟨A1, n1, c1, x1⟩, ⟨A2, n2, c2, x2⟩⟩] ++ ((qs ++ List.replicate (k + 1 - k) PairV.zero).take k).drop i = qs.take i ++ [⟨⟨A1, n1, c1, x1⟩, ⟨A2, n2, c2, x2⟩⟩] ++ qs.drop i := by
          have ea : (qs ++ List.replicate (k + 1 - k) PairV.zero).take i = qs.take i := List.take_append_of_le_length (by rw [HI.out.len]; exact HI2.out.1)
          have eb : (qs ++ List.replicate (k + 1 - k) PairV.zero).take k = qs := by rw [List.take_append_of_le_length (by rw [HI.out.len]; exact Nat.le_refl _), List.take_of_length_le (by rw [HI.out.len]; exact Nat.le_refl _)]
          rw [ea, eb]
        rw [e9] at o9
        have O9 := Lib.hid o9
        have T9 := Lib.hid t9
        have y0 := (t9.cell u0'' (by show ¬ q = q + 1; omega))
        have y1 := (t9.cell u1'' (by show ¬ q = q + 1; omega))
        have c9' : w9.cell? ⟨b, 2, none⟩ = some (.slice A k c) := T9.out.cell ((K7.out.cell (p := ⟨b, 2, none⟩) (Nat.lt_of_lt_of_le HB.out.1 HI.out.keep.size)).trans HC2.out) (by show ¬ b = q + 1; omega)
        have f9 : w9.frozen? ⟨b, 2, none⟩ = false := by
          have e := (T9.out.block b (Nat.lt_of_lt_of_le HB.out.1 (HI.out.keep.trans K7.out).size) (by omega)).trans (((HI.out.keep.trans K7.out).block b HB.out.1).trans H.out.block)
          simp [World.frozen?, e]
        clear o9 t9 e9
        refine hK.out _ _ ⟨y0, y1⟩ (fun hHeld => ?_)
        clear hK K
        try simp only [Act.put, List.getElem_toArray, List.getElem_cons_succ, List.getElem_cons_zero, List.setIfInBounds_toArray, List.set_cons_zero, List.set_cons_succ]
        refine wpAnyH_take (i := 8) (v := ?_) rfl (by kernel_rfl) (by kernel_rfl) (by kernel_rfl) (fun _ _ _ h => h) (Or.inl ⟨by rfl, ?_⟩) hHeld ?_
        rotate_left
        · intro wq hSw
          go_simp
          all_goals with_reducible rfl
        try simp only [Act.put, List.getElem_toArray, List.getElem_cons_succ, List.getElem_cons_zero, List.setIfInBounds_toArray, List.set_cons_zero, List.set_cons_succ]
        refine wpAnyH_take (i := 9) (v := ?_) rfl (by kernel_rfl) (by kernel_rfl) (by kernel_rfl) (fun _ _ _ h => h) (Or.inl ⟨by rfl, ?_⟩) hHeld ?_
        rotate_left
        · intro wq hSw
          go_simp
          all_goals with_reducible rfl
        try simp only [Act.put, List.getElem_toArray, List.getElem_cons_succ, List.getElem_cons_zero, List.setIfInBounds_toArray, List.set_cons_zero, List.set_cons_succ]
        refine wpAnyH_ready (rs := [10]) (by kernel_rfl) (by simp) ?_
        refine AllReadyH.cons rfl (fun K hK => ?_) AllReadyH.nil
        go_simp
        have y0b : (w9.setCell ⟨b, 2, none⟩ (.slice A9 (k + 1) c9)).cell? ⟨q, 0, none⟩ = some (.slice A1 n1 c1) := by rw [World.cell?_setCell_far _ _ _ _ (by show b ≠ q; omega)]; exact y0
        have y1b : (w9.setCell ⟨b, 2, none⟩ (.slice A9 (k + 1) c9)).cell? ⟨q, 1, none⟩ = some (.slice A2 n2 c2) := by rw [World.cell?_setCell_far _ _ _ _ (by show b ≠ q; omega)]; exact y1
        refine hK.out _ _ ⟨y0b, y1b⟩ (fun hHeld => ?_)
        clear hK K
        try simp only [Act.put, List.getElem_toArray, List.getElem_cons_succ, List.getElem_cons_zero, List.setIfInBounds_toArray, List.set_cons_zero, List.set_cons_succ]
        refine wpAnyH_done (by kernel_rfl) ?_ _
        refine NoPanic.normal ?_
        clear hHeld y0 y1 y0b y1b c9' f9
        go_wp2_with fail
        go_end0
        have KT : Keep w w9 := T9.out.keep (HI.out.keep.trans K7.out) (fun i e => by rw [e, HQ.out]; omega)
        have hm : ∀ p ∈ qs, (LiesIn w9 (fun b => F b ∨ (w.heap.size ≤ b ∧ b < w9.heap.size)) p.a ∧ LiesIn w9 (fun b => F b ∨ (w.heap.size ≤ b ∧ b < w9.heap.size)) p.b) ∧ p.a.n = n1 ∧ p.b.n = n2 := fun p hp => by
          obtain ⟨⟨a, d⟩, z⟩ := (HI.out.later K7.out).lies p hp
          have hd : ∀ b, (F b ∨ (q + 2 ≤ b ∧ b < w7.heap.size)) → ¬ b = q + 1 := fun b hb => by
            rcases hb with e | e
            · have := HF.out b e; omega
            · omega
          have hm : ∀ b, (F b ∨ (q + 2 ≤ b ∧ b < w7.heap.size)) → (F b ∨ (w.heap.size ≤ b ∧ b < w9.heap.size)) := fun b hb => hb.imp id fun e => ⟨by rw [HQ.out]; omega, Nat.lt_of_lt_of_le e.2 T9.out.size⟩
          exact ⟨⟨(a.turned T9.out hd).mono hm, (d.turned T9.out hd).mono hm⟩, z⟩
        have hx := HI.out.xs
        rw [List.take_of_length_le (l := ps) (by rw [H.out.st.1]; exact Nat.le_refl _)] at hx
        exact ⟨i, A9, c9, qs, w9, rfl, HI2.out.1, HI2.out.2.1, HI2.out.2.2, hx, hm, by rw [HQ.out]; exact O9.out, KT, rfl⟩
end Go.Proofs.YtifopodnceopjaaGreatDoor
/- The landed code of layer 7: a row put in. -/
namespace Go.Proofs.YtifopodnceopjaaGreatDoor
open Go.RowKit Lin
set_option linter.unusedVariables false
set_option linter.unusedSimpArgs false
theorem clr_xs {g s L : Nat} {rx ry : List Nat} {p : PairV} (hL : L < g) (h1 : p.a.xs.length = g) (h2 : p.b.xs.length = s) (h3 : rx.length = g) :
    (clr g s L rx ry p).1 ++ (clr g s L rx ry p).2 = vAddS (g + s) p.xs (rx ++ ry) (p.xs.getD L 0) := by
  have e : p.xs.getD L 0 = p.a.xs.getD L 0 := by rw [PairV.xs, List.getD_eq_getElem?_getD, List.getElem?_append_left (by omega), ← List.getD_eq_getElem?_getD]
  have t := vAddS_take g s p.xs (rx ++ ry) (p.a.xs.getD L 0)
  have d := vAddS_drop g s p.xs (rx ++ ry) (p.a.xs.getD L 0)
  rw [PairV.xs, List.take_left' h1, List.take_left' h3] at t
  rw [PairV.xs, List.drop_left' h1, List.drop_left' h3] at d
  rw [e, ← List.take_append_drop g (vAddS (g + s) p.xs (rx ++ ry) (p.a.xs.getD L 0)), PairV.xs, t, d]; rfl
theorem pair_ne_b {w : World} {F : Nat → Prop} {b : Nat} {x : RowV} {i j : Int} {v : Value} {t : TypeId} (h : LiesIn w F x) (hb : w.heap[b]? = some (.cells #[.int .i64 i, .int .i64 j, v] t (0, 0))) (hv : ∀ k : Int, v ≠ .int .u8 k) : LiesIn w (fun k => F k ∧ k ≠ b) x := by
  refine ⟨h.1, h.2.1, h.2.2.1, fun hp => ?_⟩
  obtain ⟨b', off, e, hF, hc⟩ := h.2.2.2 hp
  refine ⟨b', off, e, ⟨hF, fun e2 => ?_⟩, hc⟩
  subst e2
  have h0 := hc 0 hp
  rw [World.cell?, hb] at h0
  simp only at h0
  match off, h0 with
  | 0, h0 => simp at h0
  | 1, h0 => simp at h0
  | 2, h0 => simp at h0; exact hv _ h0
  | k + 3, h0 => simp at h0
section
variable {w w6 : World} {F R : Nat → Prop} {b g s n c : Nat} {B : List (List Nat)} {A : Option Addr} {ps qs : List PairV}
/-- What was laid is a basis again. -/
theorem laid_basis (h : BasA w F b g s B A n c ps) (hw : Keep w w6) {r : PairV} {xs ys : List Nat} {L i c' : Nat} {A' : Option Addr} (hx : xs.length = g) (hy : ys.length = s) (hxa : AllB xs) (hya : AllB ys)
    (hL : vLead g (leftB (g + s) B (xs ++ ys)) = (L : Int)) (hLg : L < g)
    (ha : r.a.xs = vScale g ((leftB (g + s) B (xs ++ ys)).take g) (invN ((leftB (g + s) B (xs ++ ys)).getD L 0))) (hbx : r.b.xs = vScale s ((leftB (g + s) B (xs ++ ys)).drop g) (invN ((leftB (g + s) B (xs ++ ys)).getD L 0)))
    (hr : LiesIn w6 R r.a ∧ LiesIn w6 R r.b ∧ r.a.n = g ∧ r.b.n = s) (hi : i ≤ n) (hlo : ∀ k, k < i → ∃ j, j < L ∧ (B.getD k []).getD j 0 ≠ 0) (hhi : i < n → ∀ j, j < L → (B.getD i []).getD j 0 = 0)
    (hqx : qs.map (fun p => (p.a.xs, p.b.xs)) = ps.map (clr g s L r.a.xs r.b.xs)) (hql : ∀ p ∈ qs, (LiesIn w6 (fun b => F b ∨ (w.heap.size ≤ b ∧ b < w6.heap.size)) p.a ∧ LiesIn w6 (fun b => F b ∨ (w.heap.size ≤ b ∧ b < w6.heap.size)) p.b) ∧ p.a.n = g ∧ p.b.n = s)
    (ho : OwnSt w6 w.heap.size A' (n + 1) c' (qs.take i ++ [r] ++ qs.drop i)) (hR : ∀ k, R k → w.heap.size ≤ k ∧ k < w6.heap.size) (hF : ∀ k, F k → k < w.heap.size) :
    BasR (w6.setCell ⟨b, 2, none⟩ (.slice A' (n + 1) c')) (fun k => F k ∨ (w.heap.size ≤ k ∧ k < w6.heap.size)) b g s (insB g s B (xs ++ ys)) := by
  have hlen : (xs ++ ys).length = g + s := by rw [List.length_append, hx, hy]
  have hall := hxa.append hya
  have hb6 : w6.heap[b]? = some (.cells #[.int .i64 (g : Int), .int .i64 (s : Int), .slice A n c] 116 (0, 0)) := (hw.block b (h.lt b h.at_)).trans h.block
  have hbl : b < w.heap.size := h.lt b h.at_
  have T : Turned (fun k => k = b) w6 (w6.setCell ⟨b, 2, none⟩ (.slice A' (n + 1) c')) := Turned.set (F := fun k => k = b) w6 ⟨b, 2, none⟩ _ rfl
  have hsz : (w6.setCell ⟨b, 2, none⟩ (.slice A' (n + 1) c')).heap.size = w6.heap.size := by simp [World.setCell]
  have hfar : ∀ x : RowV, LiesIn w6 (fun b => F b ∨ (w.heap.size ≤ b ∧ b < w6.heap.size)) x → LiesIn (w6.setCell ⟨b, 2, none⟩ (.slice A' (n + 1) c')) (fun b => F b ∨ (w.heap.size ≤ b ∧ b < w6.heap.size)) x := fun x hx =>
    ((pair_ne_b hx hb6 (fun k => by simp)).turned T (fun k hk => hk.2)).mono fun k hk => hk.1
  have hmem : ∀ p ∈ qs.take i ++ [r] ++ qs.drop i, (LiesIn w6 (fun b => F b ∨ (w.heap.size ≤ b ∧ b < w6.heap.size)) p.a ∧ LiesIn w6 (fun b => F b ∨ (w.heap.size ≤ b ∧ b < w6.heap.size)) p.b) ∧ p.a.n = g ∧ p.b.n = s := fun p hp => by
    rcases List.mem_append.1 hp with hp | hp
    · rcases List.mem_append.1 hp with hp | hp
      · exact hql p (List.mem_of_mem_take hp)
      · rw [List.mem_singleton.1 hp]
        exact ⟨⟨hr.1.mono fun k hk => Or.inr (hR k hk), hr.2.1.mono fun k hk => Or.inr (hR k hk)⟩, hr.2.2⟩
    · exact hql p (List.mem_of_mem_drop hp)
  have hrx : r.a.xs ++ r.b.xs = vScale (g + s) (leftB (g + s) B (xs ++ ys)) (invN ((leftB (g + s) B (xs ++ ys)).getD L 0)) := by
    rw [ha, hbx, ← vScale_take, ← vScale_drop, List.take_append_drop]
  have hral : r.a.xs.length = g := by rw [ha]; exact tab_length _ _
  have hq : qs.map PairV.xs = clearedL (g + s) B (r.a.xs ++ r.b.xs) L := by
    have e1 : qs.map PairV.xs = (qs.map (fun p => (p.a.xs, p.b.xs))).map (fun z => z.1 ++ z.2) := by rw [List.map_map]; rfl
    rw [e1, hqx, List.map_map, clearedL, ← h.xs, List.map_map]
    refine List.map_congr_left fun p hp => ?_
    obtain ⟨l1, l2⟩ := h.lens hp
    exact clr_xs hLg l1 l2 hral
  refine ⟨⟨insB_bas h.bas hlen hall, h.g1, h.g2, h.s1, h.s2, fun k hk => ?_⟩, Or.inl h.at_, A', n + 1, c', qs.take i ++ [r] ++ qs.drop i, ?_, ?_, fun p hp => (hmem p hp).2, ?_⟩
  · rw [hsz]
    rcases hk with e | e
    · exact Nat.lt_of_lt_of_le (hF k e) hw.size
    · exact e.2
  · have e := heap_setCell_same w6 b 2 _ _ (.slice A' (n + 1) c') hb6
    exact e
  · have o := OwnSt.turned ho T (fun k hk => by
      intro e
      have h2 := ho.1
      rcases ho.2 with ⟨hv, h0⟩ | ⟨g', cap, cur, hv, hg, _⟩
      · rw [hv] at hk; cases hk
      · rw [hv] at hk
        have : g' = k := by simpa [Value.ownBlock] using hk
        omega)
    refine o.stIn (fun p hp => ⟨hfar _ (hmem p hp).1.1, hfar _ (hmem p hp).1.2⟩) fun k hk => Or.inr ?_
    have := World.ownsRow.lt o k hk
    rw [hsz] at this
    exact this
  · rw [insB_at h.bas hlen hall hL (by rw [h.len]; exact hi) hlo (by rw [h.len]; exact hhi), List.map_append, List.map_append, List.map_take, List.map_drop, hq, ← hrx]; rfl
end
end Go.Proofs.YtifopodnceopjaaGreatDoor
/- The landed code of layer 7: Insert. -/
namespace Go.Proofs.YtifopodnceopjaaGreatDoor
open Go.RowKit Lin
set_option linter.unusedVariables false
set_option linter.unusedSimpArgs false
section
variable {w : World} {F : Nat → Prop} {b g s : Nat} {B : List (List Nat)}
set_option maxRecDepth 100000 in
set_option maxHeartbeats 4000000 in
theorem binsert_in (h : BasR w F b g s B) (B1 B2 c1 c2 : Nat) (A1 A2 : Option Addr) (xs ys : List Nat) (hc1 : g ≤ c1) (hc2 : s ≤ c2) (h1 : Bytes w B1 A1 g xs) (h2 : Bytes w B2 A2 s ys) (hB1 : B1 ≤ w.heap.size) (hB2 : B2 ≤ w.heap.size) :
    Calls Tryz.prog 21 #[.pointer (some ⟨b, 0, none⟩), .agg #[.slice A1 g c1, .slice A2 s c2]] w fun e w' => e = .returned (.tuple #[.bool (!decide (inB g s B (xs ++ ys))), .int .i64 0]) ∧ ∃ F', BasR w' F' b g s (insB g s B (xs ++ ys)) ∧ (∀ k, F' k → F k ∨ w.heap.size ≤ k) ∧ Turned F w w' := by
  obtain ⟨A, n, c, ps, h⟩ := h.open_
  obtain ⟨⟨q, hq⟩⟩ : Nonempty (∃ q, w.heap.size = q) := ⟨_, rfl⟩
  have hb := h.lt b h.at_
  have hg := h.g1
  have K0 : Hid (Keep w (w.alloc (.cells #[.slice A1 g c1, .slice A2 s c2] 38))) := (Keep.refl w).alloc _ _
  have HW : Hid ((w.alloc (.cells #[.slice A1 g c1, .slice A2 s c2] 38)).heap[q]? = some (.cells #[.slice A1 g c1, .slice A2 s c2] 38 (0, 0))) := by
    show _ = _
    rw [← hq]; exact heap_alloc_new _ _
  have H := Lib.hid h
  have HX := Lib.hid (And.intro (h1.mono hB1) (h2.mono hB2))
  have HQ := Lib.hid hq
  have HG := Lib.hid (And.intro hb (And.intro h.g2 h.s2))
  have hlen : xs.length = g := h1.length
  have hlen2 : ys.length = s := h2.length
  have HIN := Lib.hid (h.left hlen hlen2 h1.all h2.all)
  have HIB : Hid (inB g s B (xs ++ ys) ↔ vLead g (plusN g xs (ps.map fun p => p.a.xs) (byOf g xs ps) n) < 0) := h.inB_iff hlen hlen2 h1.all h2.all
  have HLL := Lib.hid (And.intro hlen (And.intro hlen2 (And.intro h1.all h2.all)))
  have b0 : ((g : Int) != (g : Int)) = false := by simp
  have b1 : ((s : Int) != (s : Int)) = false := by simp
  clear h h1 h2 hb hlen hlen2
  go_enter Tryz.func21, Tryz.ntmps21
  go_upto_region 1 with fail
  try simp only [hq]
  clear hq
  generalize (w.alloc (.cells #[.slice A1 g c1, .slice A2 s c2] 38)) = w1 at *
  have d0 := (H.out.keep K0.out).c0
  have d1 := (H.out.keep K0.out).c1
  have u0 : w1.cell? ⟨q, 0, none⟩ = some (.slice A1 g c1) := cell_of_row _ _ _ _ _ _ HW.out
  have u1 : w1.cell? ⟨q, 1, none⟩ = some (.slice A2 s c2) := cell_of_row _ _ _ _ _ _ HW.out
  go_wp2_with fail
  refine (bmade_eq b g _ d0 hg).mono ?_
  rintro e w' ⟨rfl, rfl⟩
  go_wp2_with fail
  go_region
  go_wp2_with fail
  have K1 := Lib.hid K0.out.drew
  clear d0 d1 u0 u1
  refine (breducer_bas (H.out.keep K1.out) c1 A1 xs ⟨A2, s, c2, ys⟩ ((HX.out.1.keep (Nat.le_refl _) K1.out).mono K1.out.size)).mono ?_
  rintro e w2 ⟨v1, v2, v3, AD, cD, rfl, hC⟩
  have HC := Lib.hid hC
  have K2 := Lib.hid (K1.out.trans hC.keep)
  clear hC
  go_wp2_with fail
  refine (bleft_a (H.out.keep K2.out) HC.out ((HX.out.1.keep (Nat.le_refl _) K2.out).mono K2.out.size) rfl hc1).mono ?_
  rintro e w3 ⟨A3, c3, rfl, o3, k3⟩
  have O3 : Hid (Own w3 w2.heap.size 5 A3 g c3 (plusN g xs (ps.map fun p => p.a.xs) (byOf g xs ps) n)) := o3
  have K3 := Lib.hid (K2.out.trans k3)
  have HC3 := Lib.hid (HC.out.later k3)
  clear o3 k3
  go_wp2_with fail
  refine (vlead_eq _ g c3 A3 _ _ O3.out.bytes (by have := HG.out; omega)).mono ?_
  obtain ⟨x3, hx3⟩ : ∃ x3, plusN g xs (ps.map fun p => p.a.xs) (byOf g xs ps) n = x3 := ⟨_, rfl⟩
  rw [hx3] at O3 HIB HIN ⊢
  clear hx3
  by_cases hneg : vLead g x3 < 0
  · have HN := Lib.hid hneg
    obtain ⟨vl, hvl⟩ : ∃ vl, vLead g x3 = vl := ⟨_, rfl⟩
    rw [hvl] at hneg
    have e1 : decide (vl < 0) = true := decide_eq_true hneg
    rw [hvl]
    rintro e w4 ⟨rfl, rfl⟩
    clear hvl hneg
    go_wp2_with fail
    go_ret2
    have hin : inB g s B (xs ++ ys) := HIB.out.2 HN.out
    exact ⟨by rw [decide_eq_true hin]; rfl, F, by rw [insB_in hin]; exact (H.out.keep K3.out).r, fun k hk => Or.inl hk, Turned.of_keep K3.out⟩
  · obtain ⟨L, hL1, hL2⟩ := vLead_some hneg
    obtain ⟨hLg, hL0, _⟩ := (vLeadTo_some _ g L).1 hL1
    have HN := Lib.hid (And.intro hneg hL2)
    rw [hL2]
    rintro e w4 ⟨rfl, rfl⟩
    obtain ⟨g3, rfl, hg3, hg3l⟩ := O3.out.block (by omega)
    have cx := O3.out.cell hLg
    obtain ⟨cl, hcl⟩ : ∃ cl, x3.getD L 0 = cl := ⟨_, rfl⟩
    have hclb : cl < 256 := by rw [← hcl]; exact O3.out.2.getD L
    rw [hcl] at cx hL0
    have HCL := Lib.hid (And.intro hcl (And.intro hclb hL0))
    have e1 : decide ((L : Int) < 0) = false := decide_eq_false (by omega)
    have e2 : (0 : Int) ≤ (L : Int) := Int.natCast_nonneg _
    have e3 : (L : Int) < (g : Int) := by omega
    clear hneg hL1 hL2 hcl hclb hL0 hg3 hg3l
    go_wp2_with fail
    refine (inv_pos cl HCL.out.2.1 (by have := HCL.out.2.2; omega) _).mono ?_
    rintro e w5 ⟨rfl, k5⟩
    have K5 := Lib.hid (K3.out.trans k5)
    have O5 := Lib.hid (O3.out.keep k5)
    have HC5 := Lib.hid (HC3.out.later k5)
    clear k5 cx
    go_wp2_with fail
    refine (vscale_any _ g c3 (invN cl) _ x3 _ O5.out.bytes (Nat.le_refl _) (by have := HG.out; omega) (invN_lt _)).mono ?_
    rintro e w6 ⟨A6, n6, c6, rfl, o6, k6⟩
    obtain rfl : n6 = g := by rw [← o6.length]; exact tab_length _ _
    have K6 := Lib.hid (K5.out.trans k6)
    have O6 := Lib.hid o6
    have HC6 := Lib.hid (HC5.out.later k6)
    have S5 := Lib.hid K5.out.size
    clear o6 k6
    go_wp2_with fail
    refine (bleft_b (H.out.keep K6.out) HC6.out ((HX.out.2.keep (Nat.le_refl _) K6.out).mono K6.out.size) rfl hc2).mono ?_
    rintro e w7 ⟨A7, c7, rfl, o7, k7⟩
    have O7 : Hid (Own w7 w6.heap.size 5 A7 s c7 (plusN s ys (ps.map fun p => p.b.xs) (byOf n6 xs ps) n)) := o7
    have K7 := Lib.hid (K6.out.trans k7)
    have O67 := Lib.hid (O6.out.keep k7)
    clear o7 k7
    go_wp2_with fail
    refine (vscale_any _ s c7 (invN cl) _ _ _ O7.out.bytes (Nat.le_refl _) (by have := HG.out; omega) (invN_lt _)).mono ?_
    rintro e w8 ⟨A8, n8, c8, rfl, o8, k8⟩
    obtain rfl : n8 = s := by rw [← o8.length]; exact tab_length _ _
    have K8 := Lib.hid (K7.out.trans k8)
    have O8 := Lib.hid o8
    have O68 := Lib.hid (O67.out.keep k8)
    have S7 := Lib.hid K7.out.size
    clear o8 k8
    go_wp2_with fail
    obtain ⟨x8, hx8⟩ : ∃ x8, plusN n8 ys (ps.map fun p => p.b.xs) (byOf n6 xs ps) n = x8 := ⟨_, rfl⟩
    rw [hx8] at O8 HIN
    have L6 : LiesIn w8 (fun k => w.heap.size ≤ k ∧ k < w8.heap.size) ⟨A6, n6, c6, vScale n6 x3 (invN cl)⟩ := by
      refine LiesIn.mono (Own.lies O68.out) fun k hk => ?_
      have h1 := O68.out.1.lt k hk
      have h2 := S5.out
      exact ⟨by omega, h1.2⟩
    have L8 : LiesIn w8 (fun k => w.heap.size ≤ k ∧ k < w8.heap.size) ⟨A8, n8, c8, vScale n8 x8 (invN cl)⟩ := by
      refine LiesIn.mono (Own.lies O8.out) fun k hk => ?_
      have h1 := O8.out.1.lt k hk
      have h2 := S7.out
      exact ⟨by omega, h1.2⟩
    have HL6 := Lib.hid L6
    have HL8 := Lib.hid L8
    clear hx8 L6 L8
    refine (blay_any (H.out.keep K8.out) ⟨⟨A6, n6, c6, vScale n6 x3 (invN cl)⟩, ⟨A8, n8, c8, vScale n8 x8 (invN cl)⟩⟩ L hLg ⟨HL6.out, HL8.out, rfl, rfl⟩ (fun k hk => hk.2)).mono ?_
    rintro e w9 ⟨i, A9, c9, qs, w10, rfl, hi, hlo, hhi, hqx, hql, ho, hk, rfl⟩
    have hnin : ¬ inB n6 n8 B (xs ++ ys) := fun hin => by have h1 := HN.out.1; have h2 := HIB.out.1 hin; omega
    have hld : vLead n6 (leftB (n6 + n8) B (xs ++ ys)) = (L : Int) := by
      have e := HN.out.2
      rw [HIN.out.1, vLead_take] at e; exact e
    have hcl : (leftB (n6 + n8) B (xs ++ ys)).getD L 0 = cl := by
      have e := HCL.out.1
      rw [HIN.out.1, getD_take hLg] at e; exact e
    have KK : Keep w w10 := K8.out.trans hk
    have hS : w.heap.size ≤ w8.heap.size := K8.out.size
    have L6 : LiesIn w10 (fun k => w.heap.size ≤ k ∧ k < w10.heap.size) ⟨A6, n6, c6, vScale n6 x3 (invN cl)⟩ := (HL6.out.turned (Turned.of_keep (F := fun _ => False) hk) fun _ _ e => e).mono fun k hk2 => ⟨hk2.1, Nat.lt_of_lt_of_le hk2.2 hk.size⟩
    have L8 : LiesIn w10 (fun k => w.heap.size ≤ k ∧ k < w10.heap.size) ⟨A8, n8, c8, vScale n8 x8 (invN cl)⟩ := (HL8.out.turned (Turned.of_keep (F := fun _ => False) hk) fun _ _ e => e).mono fun k hk2 => ⟨hk2.1, Nat.lt_of_lt_of_le hk2.2 hk.size⟩
    have FIN := Lib.hid (laid_basis (R := fun k => w.heap.size ≤ k ∧ k < w10.heap.size) (w6 := w10) (r := ⟨⟨A6, n6, c6, vScale n6 x3 (invN cl)⟩, ⟨A8, n8, c8, vScale n8 x8 (invN cl)⟩⟩) (A' := A9) (c' := c9) (i := i) (qs := qs) H.out KK HLL.out.1 HLL.out.2.1 HLL.out.2.2.1 HLL.out.2.2.2 hld hLg (by rw [hcl, ← HIN.out.1]) (by rw [hcl, ← HIN.out.2])
      ⟨L6, L8, rfl, rfl⟩ hi hlo hhi hqx
      (fun p hp => ⟨⟨(hql p hp).1.1.mono fun k hk2 => hk2.imp id fun e => ⟨Nat.le_trans hS e.1, e.2⟩, (hql p hp).1.2.mono fun k hk2 => hk2.imp id fun e => ⟨Nat.le_trans hS e.1, e.2⟩⟩, (hql p hp).2⟩) (ho.lower hS) (fun k hk2 => hk2) (fun k hk2 => H.out.lt k hk2))
    clear L6 L8
    have HKK := Lib.hid KK
    have HNI := Lib.hid hnin
    clear ho hk hqx hql hlo hhi hld hcl KK hnin hS
    go_wp2_with fail
    go_ret2
    refine ⟨by rw [decide_eq_false HNI.out]; rfl, _, FIN.out, fun k hk => hk.imp id fun e => e.1, (Turned.of_keep HKK.out).trans (Turned.set (F := F) w10 ⟨b, 2, none⟩ _ H.out.at_) fun _ e => Or.inl e⟩
end
end Go.Proofs.YtifopodnceopjaaGreatDoor
