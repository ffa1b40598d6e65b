/- Spans of coefficients, out of spans of rows; rows told as lists of rows. -/
import Derived.Test.YtcjjhblgejkkeaaGreatRpl
import Derived.Test.YtcjjhblgejkkeaaGreatSc
import Derived.Test.YtcjjhblgejkkeaaGreatRtr
import Derived.Test.YtcjjhblgejkkeaaGreatRturns
namespace Go.Proofs.YtcjjhblgejkkeaaGreat
open Go.RowKit Lin
set_option linter.unusedVariables false
set_option linter.unusedSimpArgs false
section
variable {g s : Nat} {M B W : List (List Nat)}
theorem getD_map_take (A : List (List Nat)) (i : Nat) : (A.map (List.take g)).getD i [] = (A.getD i []).take g := by
  rw [List.getD_eq_getElem?_getD, List.getElem?_map, List.getD_eq_getElem?_getD]
  cases A[i]? with
  | none => simp
  | some x => rfl
theorem fn_cut (A : List (List Nat)) (i j : Nat) : fn (A.map (List.take g)) i j = if j < g then fn A i j else 0 := by
  show byte (((A.map (List.take g)).getD i []).getD j 0) = if j < g then byte ((A.getD i []).getD j 0) else 0
  rw [getD_map_take, List.getD_eq_getElem?_getD, List.getElem?_take]
  by_cases h : j < g
  · rw [if_pos h, if_pos h, ← List.getD_eq_getElem?_getD]
  · rw [if_neg h, if_neg h]; rfl
/-- A combination, cut off. -/
theorem comb_cut (A : List (List Nat)) (c : Nat → By) (n j : Nat) : comb n (fn (A.map (List.take g))) c j = if j < g then comb n (fn A) c j else 0 := by
  by_cases h : j < g
  · rw [if_pos h]
    exact sm_congr fun i hi => by
      show c i * _ = c i * _
      rw [fn_cut, if_pos h]
  · rw [if_neg h]
    exact sm_zero laws n fun i hi => by
      show c i * fn (A.map (List.take g)) i j = 0
      rw [fn_cut, if_neg h, laws.mul_zero]
theorem within_cut {A C : List (List Nat)} (h : Within A.length (fn A) C.length (fn C)) : Within (A.map (List.take g)).length (fn (A.map (List.take g))) (C.map (List.take g)).length (fn (C.map (List.take g))) := fun i hi => by
  rw [List.length_map] at hi
  obtain ⟨c, hc⟩ := h i hi
  refine ⟨c, funext fun j => ?_⟩
  rw [List.length_map, comb_cut, fn_cut, hc]
theorem cut_ok {A : List (List Nat)} (h : RowsOk (g + s) A) : RowsOk g (A.map (List.take g)) := fun r hr => by
  obtain ⟨x, hx, rfl⟩ := List.mem_map.1 hr
  exact ⟨by rw [List.length_take, (h x hx).1]; omega, (h x hx).2.take g⟩
theorem conV_true {A C : List (List Nat)} (hA : RowsOk g A) (hC : RowsOk g C) (h : Within C.length (fn C) A.length (fn A)) : conV A C = true := by
  rw [conV, if_pos (hA.both hC).sz.fits]; exact (con_iff hA hC).2 h
theorem sizeE_ok {A C : List (List Nat)} (hA : RowsOk g A) (hC : RowsOk g C) : sizeE (A ++ C) = 0 := (hA.both hC).sz.sizeE
theorem sizeC_ok2 {A C : List (List Nat)} (hA : RowsOk g A) (hC : RowsOk g C) : sizeC (A ++ C) ≤ g := (hA.both hC).sz.sizeC_le
/-- What is sent, cut off, is of the span of the rows, cut off. -/
theorem send_cut (hB : Bas g s B) {t : Nat} {xs : List Nat} (hx : AllB xs) : Within [(sendN g s B t xs).take g].length (fn [(sendN g s B t xs).take g]) (B.map (List.take g)).length (fn (B.map (List.take g))) := by
  have h : Within [sendN g s B t xs].length (fn [sendN g s B t xs]) B.length (fn B) := fun i hi => by
    obtain rfl : i = 0 := by simp at hi; exact hi
    exact (send_in hB hx).2.2
  exact within_cut h
theorem SymRows.ok (h : SymRows g s M W) : RowsOk (g + s) W := fun r hr => ⟨(h r hr).1, (h r hr).2.1⟩
end
set_option maxRecDepth 100000 in
/-- coefs. -/
theorem coefs_list (n c : Nat) (A : Option Addr) (F : Nat → Prop) (ps : List PairV) (w : World) (h : StIn w F A n ps) (hF : ∀ b, F b → b < w.heap.size) (hn : n ≤ 1000) :
    Calls Tryz.prog 36 #[.slice A n c] w fun e w' => ∃ A' c', e = .returned (.slice A' n c') ∧ Mat w' ⟨A', n, c', ps.map fun p => p.a.xs⟩ ∧ Keep w w' := by
  have H := Lib.hid h
  have HF := Lib.hid hF
  clear h hF
  go_enter Tryz.func36, Tryz.ntmps36
  go_wp2_with fail
  go_loopw [3, 4] (fun mv iv wr => ∃ (i c : Nat) (A : Option Addr) (rs : List RowV), i ≤ n ∧ iv = .int .i64 (i : Int) ∧ mv = .slice A i c ∧ Lay w wr A i c rs ∧ rowsXs rs = (ps.take i).map fun p => p.a.xs) (fun _ iv _ => n - (intOf iv).toNat)
  case atStart => exact ⟨0, 0, none, [], by omega, rfl, rfl, Lay.nothing w, rfl⟩
  case round =>
    obtain ⟨i, c1, A1, rs, hi, rfl, rfl, hL, hx⟩ := hrel
    have HL := Lib.hid hL
    have HX := Lib.hid hx
    clear hL hx
    by_cases hlt : i < n
    · have e1 : (0 : Int) ≤ (i : Int) := Int.natCast_nonneg _
      have e2 : (i : Int) < (n : Int) := by omega
      have e3 : IntKind.i64.wrap ((i : Int) + 1) = (i : Int) + 1 := IntWalk.i64_in _ (by omega)
      obtain ⟨b, off, p, rfl, hb, hp, ca, cb, la, lb⟩ := (H.out.turned (Turned.of_keep (F := fun _ => False) HL.out.keep) fun _ _ e => e).at_ hlt
      have HP := Lib.hid hp
      have hlr : LiesIn wr (fun b => b < wr.heap.size ∧ ¬ (Value.slice A1 i c1).ownBlock = some b) p.a := HL.out.old (((H.out.2.1 p (List.mem_of_getElem? hp)).1).mono fun b hb => HF.out b hb)
      have HLR := Lib.hid hlr
      clear hp cb la lb hb hlr
      go_wp2_with (at_builtin; refine wpList_append_layrow rfl _ _ 47 rfl p.a 32 Tryz.underlying47 rfl HL.out HLR.out rfl (by omega) ?_)
      intro A2 c2 w2 h2
      have H2 := Lib.hid h2
      clear h2
      go_wp2_with fail
      go_roundw
      case rel => exact ⟨i + 1, c2, A2, _, by omega, by go_num, rfl, H2.out, by
        have e := HX.out
        rw [rowsXs] at e ⊢
        rw [List.map_append, e, List.take_add_one, HP.out, Option.toList_some, List.map_append]; rfl⟩
      case measure => simp [intOf]; omega
    · obtain rfl : n = i := by omega
      go_wp2_with fail
      go_ret
      have hm := HL.out.mat
      rw [HX.out, List.take_of_length_le (Nat.le_of_eq H.out.1)] at hm
      exact ⟨A1, c1, rfl, hm, HL.out.keep⟩
set_option maxRecDepth 100000 in
/-- isTrue, of a true row. -/
theorem istrue_any (g s cs c5 c6 : Nat) (As A5 A6 : Option Addr) (M : List (List Nat)) (xs ys : List Nat) (w : World) (h5 : Bytes w w.heap.size A5 g xs) (h6 : Bytes w w.heap.size A6 s ys) (hm : Mat w ⟨As, g, cs, M⟩) (sz : Sz g s M) (g1 : 1 ≤ g) (g2 : g ≤ 255) (s2 : s ≤ 255) (hy : ys = payV g s M xs) :
    Calls Tryz.prog 37 #[.agg #[.slice A5 g c5, .slice A6 s c6], .slice As g cs] w fun e w' => e = .returned (.bool true) ∧ Keep w w' := by
  obtain ⟨r0, r1, rk⟩ := row_block w (.slice A5 g c5) (.slice A6 s c6)
  obtain ⟨w1, hw1⟩ : ∃ w1, w.alloc (.cells #[.slice A5 g c5, .slice A6 s c6] 34) = w1 := ⟨_, rfl⟩
  rw [hw1] at r0 r1 rk
  have HC := Lib.hid (comb_mat (c' := c5) (hm.keep rk) sz g1 g2 s2 (h5.keep (Nat.le_refl _) rk) rk.size rfl)
  have h6' := h6.keep (Nat.le_refl _) rk
  have HK := Lib.hid rk
  have HLT : Hid (w.heap.size < w1.heap.size) := by show _ < _; rw [← hw1]; simp
  have R1 := Lib.hid r1
  have H6 := Lib.hid h6'
  have HY := Lib.hid hy
  clear h5 h6 hm sz rk r1 h6' hy
  go_enter Tryz.func37, Tryz.ntmps37
  go_wp2_with fail
  refine HC.out.mono ?_
  rintro e w2 ⟨A7, n7, c7, rfl, o7, k7⟩
  have q7 := run_str (P := Tryz.prog) (w := w2) o7.bytes (src := 32) (e := 5) (dst := 9) Tryz.underlying32 Tryz.underlying5 Tryz.underlying9 c7
  have q6 := run_str (P := Tryz.prog) (w := w2) (H6.out.keep HK.out.size k7) (src := 32) (e := 5) (dst := 9) Tryz.underlying32 Tryz.underlying5 Tryz.underlying9 c6
  have x1 : w2.cell? ⟨w.heap.size, 1, none⟩ = some (.slice A6 s c6) := (World.cell?_of_block (k7.block w.heap.size HLT.out)).trans R1.out
  have hq : ((strN (vComb s M xs g)).toList == (strN ys).toList) = true := strN_eq (by rw [HY.out]; rfl)
  have HK2 := Lib.hid (HK.out.trans k7)
  clear k7 o7 r0
  go_wp2_with fail
  go_ret
  exact ⟨rfl, HK2.out⟩
end Go.Proofs.YtcjjhblgejkkeaaGreat
