/- The document's own answers of layer 9: room. -/
import Derived.Test.YtcafofffgmaepaaPdpl
import Derived.Test.YtcafofffgmaepaaOwn
import Derived.Test.YtcafofffgmaepaaRowsApp
import Derived.Test.YtcafofffgmaepaaVec
import Derived.Test.YtcafofffgmaepaaRowsMk
import Derived.Test.YtcafofffgmaepaaMgen
import Derived.BigQuiet
namespace Go.Proofs.Ytcafofffgmaepaa
open Go.RowKit
set_option linter.unusedVariables false
set_option linter.unusedSimpArgs false
theorem MayG.nat {g s : Int} (h : MayG g s) : ∃ G S P : Nat, g = G ∧ s = S ∧ 1 ≤ G ∧ G ≤ 255 ∧ 1 ≤ S ∧ S ≤ 65535 ∧ G * S = P ∧ 5 ≤ P ∧ P ≤ 16711425 ∧ (G : Int) * (S : Int) = (P : Int) := by
  obtain ⟨h1, h2, h3, h4, h5⟩ := h
  obtain ⟨G, rfl⟩ := Int.eq_ofNat_of_zero_le (show 0 ≤ g by omega)
  obtain ⟨S, rfl⟩ := Int.eq_ofNat_of_zero_le (show 0 ≤ s by omega)
  have e : (G : Int) * (S : Int) = ((G * S : Nat) : Int) := by simp
  have hm : G * S ≤ 255 * 65535 := Nat.mul_le_mul (by omega) (by omega)
  refine ⟨G, S, G * S, rfl, rfl, by omega, by omega, by omega, by omega, rfl, ?_, by omega, e⟩
  rw [e] at h5; omega
theorem rroom_in (G S P : Nat) (g1 : 1 ≤ G) (g2 : G ≤ 255) (s1 : 1 ≤ S) (s2 : S ≤ 65535) (hP : (G : Int) * (S : Int) = (P : Int)) (p1 : 5 ≤ P) (p2 : P ≤ 16711425) (w : World) :
    Calls Try.prog 89 #[.int .i64 (G : Int), .int .i64 (S : Int)] w fun e w' => e = .returned (.tuple #[.int .i64 ((P - 4 : Nat) : Int), .int .i64 0]) ∧ w = w' := by
  have d1 : decide ((G : Int) < 1) = false := decide_eq_false (by omega)
  have d2 : decide ((255 : Int) < (G : Int)) = false := decide_eq_false (by omega)
  have d3 : decide ((S : Int) < 1) = false := decide_eq_false (by omega)
  have d4 : decide ((65535 : Int) < (S : Int)) = false := decide_eq_false (by omega)
  have d5 : decide ((P : Int) < 5) = false := decide_eq_false (by omega)
  have w1 : IntKind.i64.wrap (P : Int) = (P : Int) := IntWalk.i64_in _ (by omega)
  have w2 : IntKind.i64.wrap ((P : Int) - 4) = ((P - 4 : Nat) : Int) := by rw [show (P : Int) - 4 = ((P - 4 : Nat) : Int) by omega]; exact IntWalk.i64_in _ (by omega)
  go_enter Try.func89, Try.ntmps89
  go_wp2_with fail
  go_ret2
  exact ⟨rfl, rfl⟩
theorem rroom_out (g s : Int) (h : ¬ MayG g s) (w : World) :
    Calls Try.prog 89 #[.int .i64 g, .int .i64 s] w fun e w' => e = .returned (.tuple #[.int .i64 0, .int .i64 1]) ∧ w = w' := by
  have H := Lib.hid h
  by_cases h1 : g < 1
  · have d1 : decide (g < 1) = true := decide_eq_true h1
    clear h
    go_enter Try.func89, Try.ntmps89
    go_wp2_with fail
    go_ret2
    exact ⟨rfl, rfl⟩
  have d1 : decide (g < 1) = false := decide_eq_false h1
  by_cases h2 : 255 < g
  · have d2 : decide (255 < g) = true := decide_eq_true h2
    clear h
    go_enter Try.func89, Try.ntmps89
    go_wp2_with fail
    go_ret2
    exact ⟨rfl, rfl⟩
  have d2 : decide (255 < g) = false := decide_eq_false h2
  by_cases h3 : s < 1
  · have d3 : decide (s < 1) = true := decide_eq_true h3
    clear h
    go_enter Try.func89, Try.ntmps89
    go_wp2_with fail
    go_ret2
    exact ⟨rfl, rfl⟩
  have d3 : decide (s < 1) = false := decide_eq_false h3
  by_cases h4 : 65535 < s
  · have d4 : decide (65535 < s) = true := decide_eq_true h4
    clear h
    go_enter Try.func89, Try.ntmps89
    go_wp2_with fail
    go_ret2
    exact ⟨rfl, rfl⟩
  have d4 : decide (65535 < s) = false := decide_eq_false h4
  have h5 : g * s < 5 := by
    refine Classical.byContradiction fun h5 => h ⟨by omega, by omega, by omega, by omega, by omega⟩
  have h6 : 0 ≤ g * s := Int.mul_nonneg (by omega) (by omega)
  have w1 : IntKind.i64.wrap (g * s) = g * s := IntWalk.i64_in _ (by omega)
  have d5 : decide (g * s < 5) = true := decide_eq_true h5
  obtain ⟨p, hp⟩ : ∃ p, g * s = p := ⟨_, rfl⟩
  rw [hp] at h5 h6 w1 d5
  clear h
  go_enter Try.func89, Try.ntmps89
  go_wp2_with fail
  go_ret2
  exact ⟨rfl, rfl⟩
end Go.Proofs.Ytcafofffgmaepaa
/- The document's own answers of layer 9: symbols of a chunk. -/
namespace Go.Proofs.Ytcafofffgmaepaa
open Go.RowKit
set_option linter.unusedVariables false
set_option linter.unusedSimpArgs false
theorem tab_set (n : Nat) (f : Nat → Nat) (k v : Nat) : (tab n f).set k v = tab n fun i => if i = k then v else f i := by
  refine list_ext (by simp [tab_length]) fun i hi => ?_
  simp [tab_length] at hi
  rw [tab_getD, if_pos hi, List.getD_eq_getElem?_getD, List.getElem?_set]
  by_cases e : k = i
  · subst e; simp [tab_length, hi]
  · rw [if_neg e, if_neg (fun h => e h.symm), ← List.getD_eq_getElem?_getD, tab_getD, if_pos hi]
/-- All bytes while they are laid: the head from behind, then the chunk. -/
def headT (P n j : Nat) : List Nat := tab P fun x => if 4 - j ≤ x ∧ x < 4 then (formN 4 n).getD x 0 else 0
def bodyT (P : Nat) (xs : List Nat) (k : Nat) : List Nat := tab P fun x => if x < 4 then (formN 4 xs.length).getD x 0 else if x < 4 + k then xs.getD (x - 4) 0 else 0
theorem headT_zero (P n : Nat) : headT P n 0 = List.replicate P 0 := by
  refine list_ext (by simp [headT, tab_length]) fun i hi => ?_
  simp [headT, tab_length] at hi
  rw [headT, tab_getD, if_pos hi, if_neg (by omega)]; simp [List.getD_eq_getElem?_getD, hi]
theorem headT_set (P n j t : Nat) (ht : t + j = 3) : (headT P n j).set t (n / 256 ^ j % 256) = headT P n (j + 1) := by
  rw [headT, tab_set]
  refine tab_congr fun x hx => ?_
  by_cases e : x = t
  · subst e
    rw [if_pos rfl, if_pos (by omega), formN_get 4 n x (by omega), show 4 - 1 - x = j by omega]
  · rw [if_neg e]
    by_cases h : 4 - j ≤ x ∧ x < 4
    · rw [if_pos h, if_pos (by omega)]
    · rw [if_neg h, if_neg (by omega)]
theorem headT_all (P : Nat) (xs : List Nat) : headT P xs.length 4 = bodyT P xs 0 := tab_congr fun x _ => by
  by_cases h : x < 4
  · rw [if_pos (by omega), if_pos h]
  · rw [if_neg (by omega), if_neg h, if_neg (by omega)]
theorem bodyT_set (P : Nat) (xs : List Nat) (k u : Nat) (hu : 4 + k = u) : (bodyT P xs k).set u (xs.getD k 0) = bodyT P xs (k + 1) := by
  rw [bodyT, tab_set]
  refine tab_congr fun x hx => ?_
  by_cases e : x = u
  · subst e
    rw [if_pos rfl, if_neg (by omega), if_pos (by omega), show x - 4 = k by omega]
  · rw [if_neg e]
    by_cases h : x < 4
    · rw [if_pos h, if_pos h]
    · rw [if_neg h, if_neg h]
      by_cases h2 : x < 4 + k
      · rw [if_pos h2, if_pos (by omega)]
      · rw [if_neg h2, if_neg (by omega)]
theorem bodyT_all {P : Nat} {xs : List Nat} (h : xs.length + 4 ≤ P) : bodyT P xs xs.length = allN P xs := by
  refine list_ext (by rw [bodyT, tab_length, allN_len h]) fun i hi => ?_
  rw [bodyT, tab_length] at hi
  rw [bodyT, tab_getD, if_pos hi, allN, List.getD_eq_getElem?_getD (l := formN 4 xs.length ++ xs ++ List.replicate (P - 4 - xs.length) 0)]
  by_cases h1 : i < 4
  · rw [if_pos h1, List.append_assoc, List.getElem?_append_left (by rw [formN_length]; exact h1), List.getD_eq_getElem?_getD]
  · rw [if_neg h1, List.append_assoc, List.getElem?_append_right (by rw [formN_length]; omega), formN_length]
    by_cases h2 : i < 4 + xs.length
    · rw [if_pos h2, List.getElem?_append_left (by omega), List.getD_eq_getElem?_getD]
    · rw [if_neg h2, List.getElem?_append_right (by omega), List.getElem?_replicate, if_pos (by omega)]; rfl
end Go.Proofs.Ytcafofffgmaepaa
/- The document's own Lay of layer 9. -/
namespace Go.Proofs.Ytcafofffgmaepaa
open Go.RowKit
set_option linter.unusedVariables false
set_option linter.unusedSimpArgs false
theorem run_piece (f t n c : Nat) (A : Option Addr) (h1 : f ≤ t) (h2 : t ≤ c) (w : World) :
    (Instr.slice 22 (.slice A n c) (some (.int .i64 (f : Int))) (some (.int .i64 (t : Int))) none).run Try.prog w = .ok (.slice (dropA A c f) (t - f) (c - f)) w := by
  have ht : Try.prog.underlying 22 = some (.slice (Try.prog.elem 22)) := by kernel_rfl
  obtain ⟨i0, hi0, hz0, hz1, hz2⟩ := info_parts info5
  have he : Try.prog.elem 22 = 5 := by kernel_rfl
  rw [run_slice_lh (P := Try.prog) (w := w) 22 A n c ht .i64 .i64 f t (by omega) (by omega) (by omega), he]
  simp [sizeOf, typeInfo, hi0, hz1, sliced, dropA]
theorem Bytes.piece {w : World} {B n c f t : Nat} {A : Option Addr} {xs : List Nat} (h : Bytes w B A n xs) (h1 : f ≤ t) (h2 : t ≤ n) (hc : n ≤ c) : Bytes w B (dropA A c f) (t - f) (pieceN xs f t) := by
  refine ⟨piece_len h1 (by rw [h.1]; exact h2), fun x hx => h.2.1 x (List.mem_of_mem_drop (List.mem_of_mem_take hx)), fun hp => ?_⟩
  obtain ⟨b, off, rfl, hb, hcell⟩ := h.2.2 (by omega)
  refine ⟨b, off + f, dropA_some b off c f (by omega), hb, fun i hi => ?_⟩
  rw [Nat.add_assoc, hcell (f + i) (by omega)]
  simp [pieceN, List.getD_eq_getElem?_getD, List.getElem?_take, List.getElem?_drop, hi]
theorem rlay_out (g s : Int) (h : ¬ MayG g s) (A : Option Addr) (n c : Nat) (w : World) : Calls Try.prog 60 #[.slice A n c, .int .i64 g, .int .i64 s] w (NewRows w [] 1) := by
  go_enter Try.func60, Try.ntmps60
  go_wp2_with fail
  refine (rroom_out g s h w).mono ?_
  rintro e w1 ⟨rfl, rfl⟩
  go_wp2_with fail
  go_ret2
  exact NewRows.none_ _ _
theorem rlay_none (G S P : Nat) (g1 : 1 ≤ G) (g2 : G ≤ 255) (s1 : 1 ≤ S) (s2 : S ≤ 65535) (hP : (G : Int) * (S : Int) = (P : Int)) (p1 : 5 ≤ P) (p2 : P ≤ 16711425) (A : Option Addr) (c : Nat) (w : World) : Calls Try.prog 60 #[.slice A 0 c, .int .i64 (G : Int), .int .i64 (S : Int)] w (NewRows w [] 4) := by
  go_enter Try.func60, Try.ntmps60
  go_wp2_with fail
  refine (rroom_in G S P g1 g2 s1 s2 hP p1 p2 w).mono ?_
  rintro e w1 ⟨rfl, rfl⟩
  go_wp2_with fail
  go_ret2
  exact NewRows.none_ _ _
theorem rlay_long (G S P n : Nat) (g1 : 1 ≤ G) (g2 : G ≤ 255) (s1 : 1 ≤ S) (s2 : S ≤ 65535) (hP : (G : Int) * (S : Int) = (P : Int)) (p1 : 5 ≤ P) (p2 : P ≤ 16711425) (hn : P < n + 4) (A : Option Addr) (c : Nat) (w : World) : Calls Try.prog 60 #[.slice A n c, .int .i64 (G : Int), .int .i64 (S : Int)] w (NewRows w [] 3) := by
  have d1 : ((n : Int) == 0) = false := beq_eq_false_iff_ne.2 (by omega)
  have d2 : ((P - 4 : Nat) : Int) < (n : Int) := by omega
  go_enter Try.func60, Try.ntmps60
  go_wp2_with fail
  refine (rroom_in G S P g1 g2 s1 s2 hP p1 p2 w).mono ?_
  rintro e w1 ⟨rfl, rfl⟩
  go_wp2_with fail
  go_ret2
  exact NewRows.none_ _ _
set_option maxRecDepth 100000 in
set_option maxHeartbeats 4000000 in
theorem rlay_in (G S P n : Nat) (g1 : 1 ≤ G) (g2 : G ≤ 255) (s1 : 1 ≤ S) (s2 : S ≤ 65535) (hP : (G : Int) * (S : Int) = (P : Int)) (p1 : 5 ≤ P) (p2 : P ≤ 16711425) (hn1 : 1 ≤ n) (hn : n + 4 ≤ P) (A : Option Addr) (c : Nat) (xs : List Nat) (w : World) (h : Bytes w w.heap.size A n xs) :
    Calls Try.prog 60 #[.slice A n c, .int .i64 (G : Int), .int .i64 (S : Int)] w (NewRows w (layN G S xs) 0) := by
  have H := Lib.hid h
  have HXL : Hid (xs.length = n) := h.length
  have HPN : Hid (G * S = P) := by
    have : ((G * S : Nat) : Int) = (P : Int) := by rw [← hP]; simp
    show _ = _
    omega
  have d1 : ((n : Int) == 0) = false := beq_eq_false_iff_ne.2 (by omega)
  have d2 : ¬ ((P - 4 : Nat) : Int) < (n : Int) := by omega
  have d3 : decide (((P - 4 : Nat) : Int) < (n : Int)) = false := decide_eq_false d2
  have d3' : decide (P - 4 < n) = false := decide_eq_false (by omega)
  have w1 : IntKind.i64.wrap (P : Int) = (P : Int) := IntWalk.i64_in _ (by omega)
  have mk2 := run_make_bytes (P := Try.prog) Try.underlying22 info5 P (by omega) w
  obtain ⟨gr, hgr⟩ : ∃ gr, w.heap.size = gr := ⟨_, rfl⟩
  have oR := Own.made w 5 P (by omega)
  rw [hgr, ← headT_zero P xs.length] at oR
  generalize madeCells #[.int .u8 0] P = MC at *
  have OS := Lib.hid oR
  have KS : Hid (Keep w (w.alloc (.cells MC 5))) := (Keep.refl w).alloc _ _
  have HG := Lib.hid hgr
  clear h oR hgr
  go_enter Try.func60, Try.ntmps60
  go_wp2_with fail
  refine (rroom_in G S P g1 g2 s1 s2 hP p1 p2 w).mono ?_
  rintro e w1 ⟨rfl, rfl⟩
  go_wp2_with fail
  try rw [HG.out]
  go_loopw [11, 12] (fun nv iv wr => ∃ j : Nat, j ≤ 4 ∧ nv = .int .i64 ((n / 256 ^ j : Nat) : Int) ∧ iv = .int .i64 (3 - (j : Int)) ∧ Own wr gr 5 (some ⟨gr, 0, none⟩) P P (headT P xs.length j) ∧ Keep w wr) (fun _ iv _ => (intOf iv + 1).toNat)
  case atStart => exact ⟨0, by omega, by simp, by simp, OS.out, KS.out⟩
  case round =>
    clear OS KS mk2
    obtain ⟨j, hj, rfl, rfl, hown, hkeep⟩ := hrel
    by_cases hlt : j < 4
    · obtain ⟨t, ht⟩ : ∃ t, 3 - j = t := ⟨_, rfl⟩
      have e1 : (3 : Int) - (j : Int) = (t : Int) := by omega
      obtain ⟨q, hq⟩ : ∃ q, n / 256 ^ j = q := ⟨_, rfl⟩
      obtain ⟨q', hq'⟩ : ∃ q', n / 256 ^ (j + 1) = q' := ⟨_, rfl⟩
      obtain ⟨d, hd⟩ : ∃ d, q % 256 = d := ⟨_, rfl⟩
      have d4 : d < 256 := by omega
      have e3 : (q : Int) % 256 = (d : Int) := by omega
      have e4 : (d : Int) % 256 = (d : Int) := by omega
      have e5 : (q : Int) / 256 = (q' : Int) := by
        have : q' = q / 256 := by rw [← hq', ← hq, Nat.pow_succ, Nat.div_div_eq_div_mul]
        omega
      have e6 : (q : Int).tmod 256 = (d : Int) := by rw [Int.tmod_eq_emod_of_nonneg (by omega)]; exact e3
      have e7 : (q : Int).tdiv 256 = (q' : Int) := by rw [Int.tdiv_eq_ediv_of_nonneg (by omega)]; exact e5
      have q64 : q ≤ n := by rw [← hq]; exact Nat.div_le_self _ _
      have hc := hown.cell (i := t) (by omega)
      have hf := hown.frozen t
      have hs := hown.stored (i := t) (v := d) d4
      have hst := headT_set P xs.length j t (by omega)
      rw [HXL.out, hq, hd] at hst
      rw [HXL.out, hst] at hs
      have HS := Lib.hid hs
      have HK := Lib.hid (hkeep.setCell (a := ⟨gr, t, none⟩) (by rw [HG.out]; exact Nat.le_refl _) (.int .u8 (d : Int)))
      have HQ := Lib.hid hq'
      have HT := Lib.hid ht
      rw [hq, e1]
      generalize (headT P xs.length j).getD t 0 = z at hc
      have x1 : (0 : Int) ≤ (t : Int) := Int.natCast_nonneg _
      have x3 : (t : Int) < (P : Int) := by omega
      have x4 : IntKind.i64.wrap (d : Int) = (d : Int) := IntWalk.i64_in _ (by omega)
      have x5 : IntKind.i64.wrap (q' : Int) = (q' : Int) := IntWalk.i64_in _ (by omega)
      clear hs hown hkeep hq hq' hd ht e1 hst
      go_wp2_with fail
      go_roundw
      case rel => exact ⟨j + 1, by omega, by rw [HQ.out], by have := HT.out; rw [show 3 - ((j + 1 : Nat) : Int) = (t : Int) - 1 by omega], by rw [HXL.out]; exact HS.out, HK.out⟩
      case measure => have := HT.out; simp [intOf]
    · obtain rfl : j = 4 := by omega
      rw [headT_all] at hown
      rw [show (3 : Int) - ((4 : Nat) : Int) = -1 from rfl]
      obtain ⟨z4, hz4⟩ : ∃ z, n / 256 ^ 4 = z := ⟨_, rfl⟩
      rw [hz4]
      clear hz4
      have HO := Lib.hid hown
      have HK := Lib.hid hkeep
      clear hown hkeep
      go_wp2_with fail
      go_loopw [13] (fun kv wr => ∃ k : Nat, k ≤ n ∧ kv = .int .i64 k ∧ Own wr gr 5 (some ⟨gr, 0, none⟩) P P (bodyT P xs k) ∧ Keep w wr) (fun kv _ => n - (intOf kv).toNat)
      case atStart => exact ⟨0, by omega, rfl, HO.out, HK.out⟩
      case round =>
        clear HO HK
        obtain ⟨k, hk, rfl, hown, hkeep⟩ := hrel
        have f1 : (0 : Int) ≤ (k : Int) := Int.natCast_nonneg _
        by_cases hlt2 : k < n
        · obtain ⟨u, hu⟩ : ∃ u, 4 + k = u := ⟨_, rfl⟩
          have f2 : (k : Int) < (n : Int) := by omega
          have f3 : 4 + (k : Int) = (u : Int) := by omega
          have f4 : (0 : Int) ≤ (u : Int) := Int.natCast_nonneg _
          have f5 : (u : Int) < (P : Int) := by omega
          have f6 : IntKind.i64.wrap (u : Int) = (u : Int) := IntWalk.i64_in _ (by omega)
          obtain ⟨b1, o1, rfl, hb1, c2⟩ := (H.out.keep (Nat.le_refl _) hkeep).at_ hlt2
          have c3 := hown.frozen u
          have c4 := hown.cell (i := u) (by omega)
          have hx : xs.getD k 0 < 256 := H.out.2.1.getD k
          have o2 := hown.stored (i := u) (v := xs.getD k 0) hx
          rw [bodyT_set P xs k u hu] at o2
          have HO2 := Lib.hid o2
          have HK2 := Lib.hid (hkeep.setCell (a := ⟨gr, u, none⟩) (by rw [HG.out]; exact Nat.le_refl _) (.int .u8 ((xs.getD k 0 : Nat) : Int)))
          generalize xs.getD k 0 = x at *
          generalize (bodyT P xs k).getD u 0 = z at c4
          clear hown hkeep o2 hb1 hu
          go_wp2_with fail
          go_roundw
          case rel => exact ⟨k + 1, by omega, by go_num, HO2.out, HK2.out⟩
          case measure => simp [intOf]; omega
        · obtain rfl : n = k := by omega
          rw [← HXL.out, bodyT_all (by rw [HXL.out]; exact hn)] at hown
          obtain ⟨Y, hY⟩ : ∃ Y, allN P xs = Y := ⟨_, rfl⟩
          have HYL : Hid (Y.length = P) := by rw [← hY]; exact allN_len (by rw [HXL.out]; exact hn)
          rw [hY] at hown
          have HY := Lib.hid hY
          have HO := Lib.hid hown
          have HK := Lib.hid hkeep
          obtain ⟨wy, rfl⟩ : ∃ wy, wy = wr := ⟨_, rfl⟩
          clear hown hkeep hY hlt2
          go_wp2_with fail
          go_loopw [14, 15] (fun ov iv wr => ∃ (i : Nat) (Ao : Option Addr) (co : Nat) (rs : List RowV), i ≤ G ∧ iv = .int .i64 i ∧ ov = .slice Ao i co ∧ Laying wy wr Ao i co rs ∧ rowsXs rs = cutsN i S Y) (fun _ iv _ => G - (intOf iv).toNat)
          case atStart => exact ⟨0, none, 0, [], by omega, rfl, rfl, Laying.nothing wy, rfl⟩
          case round =>
            obtain ⟨i, Ao, co, rs, hi, rfl, rfl, hl, hx⟩ := hrel
            have HL := Lib.hid hl
            have HX := Lib.hid hx
            clear hl hx
            have f1 : (0 : Int) ≤ (i : Int) := Int.natCast_nonneg _
            by_cases hlt3 : i < G
            · obtain ⟨p, hp⟩ : ∃ p, i * S = p := ⟨_, rfl⟩
              obtain ⟨q, hq⟩ : ∃ q, (i + 1) * S = q := ⟨_, rfl⟩
              have hqP : q ≤ P := by rw [← hq, ← HPN.out]; exact Nat.mul_le_mul_right S hlt3
              have hpq : p + S = q := by rw [← hp, ← hq, Nat.add_mul, Nat.one_mul]
              obtain ⟨i1, hi1⟩ : ∃ i1, i + 1 = i1 := ⟨_, rfl⟩
              have e1 : (i : Int) * (S : Int) = (p : Int) := by rw [← hp]; simp
              have e2 : (i1 : Int) * (S : Int) = (q : Int) := by rw [← hq, ← hi1]; simp
              have e3 : IntKind.i64.wrap (p : Int) = (p : Int) := IntWalk.i64_in _ (by omega)
              have e4 : IntKind.i64.wrap (q : Int) = (q : Int) := IntWalk.i64_in _ (by omega)
              have e5 : IntKind.i64.wrap ((i : Int) + 1) = (i1 : Int) := by rw [show (i : Int) + 1 = (i1 : Int) by omega]; exact IntWalk.i64_in _ (by omega)
              have f2 : (i : Int) < (G : Int) := by omega
              have sl : ∀ w, (Instr.slice 22 (.slice (some ⟨gr, 0, none⟩) P P) (some (.int .i64 (p : Int))) (some (.int .i64 (q : Int))) none).run Try.prog w = .ok (.slice (dropA (some ⟨gr, 0, none⟩) P p) (q - p) (P - p)) w := fun w => run_piece p q P P _ (by omega) hqP w
              have HB : Hid (Bytes wr wr.heap.size (dropA (some ⟨gr, 0, none⟩) P p) (q - p) (cutN S i Y)) := by
                have hb := ((HO.out.keep HL.out.2.2).bytes.piece (f := p) (t := q) (c := P) (by omega) hqP (Nat.le_refl _))
                rw [pieceN, show q - p = S by omega, ← hp] at hb
                rw [show q - p = S by omega, ← hp]
                exact hb
              have hqp : q - p ≤ 65535 := by omega
              obtain ⟨m, hm⟩ : ∃ m, q - p = m := ⟨_, rfl⟩
              obtain ⟨Ad, hAd⟩ : ∃ Ad, dropA (some ⟨gr, 0, none⟩) P p = Ad := ⟨_, rfl⟩
              rw [hm, hAd] at sl HB
              rw [hm] at hqp
              have HI1 := Lib.hid hi1
              clear hp hq hpq hm hAd hi1
              go_wp2_with fail
              refine (rown_any _ m _ Ad (cutN S i Y) wr HB.out (by omega)).mono ?_
              rintro e w8 ⟨A8, n8, c8, rfl, o8, k8⟩
              have HL8 := Lib.hid (HL.out.later k8)
              have HO8 := Lib.hid (o8.lower HL.out.2.2.size)
              clear o8 k8
              go_wp2_with (at_builtin; refine wpList_append_row rfl _ _ 49 rfl ⟨A8, n8, c8, cutN S i Y⟩ Try.underlying49 infoRow rfl (HL8.out.1.alloc _) rfl (by rw [World.cell?_alloc_at _ _ _ _ (by simp)]; rfl) (by omega) (by have := HL8.out.2.2.size; simp at this ⊢; omega) ?_)
              intro A9 c9 w9 h9 hgr9 hb9
              have HL9 := Lib.hid (HL8.out.more (row_apart HL8.out HO8.out) h9 hgr9 (by simpa using hb9))
              clear h9 hgr9 hb9
              go_wp2_with fail
              go_roundw
              case rel => exact ⟨i + 1, A9, c9, _, by omega, by rw [← HI1.out], rfl, HL9.out, by rw [rowsXs, List.map_append, ← rowsXs, HX.out, cutsN_succ]; rfl⟩
              case measure => have := HI1.out; simp [intOf]; omega
            · obtain rfl : G = i := by omega
              go_wp2_with fail
              go_ret2
              obtain ⟨A', n', c', he, rs', r1, r2, r3, r4⟩ := HL.out.done 0
              refine ⟨A', n', c', he, rs', r1.mono fun b hb => ⟨Nat.le_trans HK.out.size hb.1, hb.2⟩, r2, ?_, HK.out.trans r4⟩
              rw [r3, HX.out, layN, HPN.out, HY.out]
end Go.Proofs.Ytcafofffgmaepaa
/- The document's own Take of layer 9. -/
namespace Go.Proofs.Ytcafofffgmaepaa
open Go.RowKit
set_option linter.unusedVariables false
set_option linter.unusedSimpArgs false
theorem own_le {w : World} {base n c : Nat} {e : TypeId} {A : Option Addr} {xs : List Nat} (h : Own w base e A n c xs) : n ≤ c := by
  rcases h.1.2 with ⟨hv, h0⟩ | ⟨g, cap, cur, hv, _, _, hle, _⟩
  · omega
  · injection hv with _ _ h3; omega
theorem NewPair.none_at {w w' : World} (k : Keep w w') (er : Int) : NewPair w [] er (.returned (.tuple #[.slice none 0 0, .int .i64 er])) w' := ⟨none, 0, 0, rfl, Own.none_ _ _ _, k⟩
end Go.Proofs.Ytcafofffgmaepaa
/- The document's own Chunks of layer 9. -/
namespace Go.Proofs.Ytcafofffgmaepaa
open Go.RowKit
set_option linter.unusedVariables false
set_option linter.unusedSimpArgs false
/-- A slice of n ints at A, below block B. -/
def IntsAt (w : World) (B : Nat) (A : Option Addr) (n : Nat) (l : List Int) : Prop :=
  l.length = n ∧ (0 < n → ∃ b off, A = some ⟨b, off, none⟩ ∧ b < B ∧ ∀ (i : Nat) (z : Int), l[i]? = some z → w.cell? ⟨b, off + i, none⟩ = some (.int .i64 z))
theorem IntsAt.keep {w w' : World} {B n : Nat} {A : Option Addr} {l : List Int} (h : IntsAt w B A n l) (hB : B ≤ w.heap.size) (k : Keep w w') : IntsAt w' B A n l :=
  ⟨h.1, fun hn => by
    obtain ⟨b, off, e, hb, hc⟩ := h.2 hn
    exact ⟨b, off, e, hb, fun i z hi => ((Below.mono k hB).cell (p := ⟨b, off + i, none⟩) hb).trans (hc i z hi)⟩⟩
/-- Cuts that rise, none above n. -/
def GoodC (n : Nat) (l : List Int) (k : Nat) : Prop := ∀ i z, i < k → l[i]? = some z → 0 ≤ z ∧ z ≤ (n : Int) ∧ ∀ y, 0 < i → l[i - 1]? = some y → y ≤ z
def NewChunks (w : World) (M : List (List Nat)) (O : List Nat) (er : Int) (e : Ending) (w' : World) : Prop :=
  ∃ A n c A' n' c', e = .returned (.tuple #[.slice A n c, .slice A' n' c', .int .i64 er]) ∧ (∃ rs, RowsIn w' (fun b => w.heap.size ≤ b ∧ b < w'.heap.size) A n rs ∧ n ≤ c ∧ rowsXs rs = M) ∧ Own w' w.heap.size 5 A' n' c' O ∧ Keep w w'
theorem NewChunks.nil {w w' : World} (k : Keep w w') (er : Int) : NewChunks w [] [] er (.returned (.tuple #[.slice none 0 0, .slice none 0 0, .int .i64 er])) w' := ⟨none, 0, 0, none, 0, 0, rfl, ⟨[], RowsIn.nothing _ _ _, Nat.le_refl _, rfl⟩, Own.none_ _ _ _, k⟩
theorem rchunks_out (g s : Int) (h : ¬ MayG g s) (A A' : Option Addr) (n c n' c' : Nat) (w : World) : Calls Try.prog 50 #[.slice A n c, .slice A' n' c', .int .i64 g, .int .i64 s] w (NewChunks w [] [] 1) := by
  go_enter Try.func50, Try.ntmps50
  go_wp2_with fail
  refine (rroom_out g s h w).mono ?_
  rintro e w1 ⟨rfl, rfl⟩
  go_wp2_with fail
  go_ret3
  exact NewChunks.nil (Keep.refl w) 1
/-- The cuts, as places. -/
theorem good_nat {n : Nat} {l : List Int} (h : GoodC n l l.length) : ∃ cs : List Nat, l = cs.map (fun x : Nat => (x : Int)) ∧ (∀ x ∈ cs, x ≤ n) ∧ ∀ (i j x y : Nat), i ≤ j → cs[i]? = some x → cs[j]? = some y → x ≤ y := by
  have hz : ∀ z ∈ l, 0 ≤ z ∧ z ≤ (n : Int) := fun z hz => by
    obtain ⟨i, hi, e⟩ := List.getElem_of_mem hz
    have := h i z hi (by rw [List.getElem?_eq_getElem hi, e])
    exact ⟨this.1, this.2.1⟩
  have hmap : l = (l.map Int.toNat).map (fun x : Nat => (x : Int)) := by
    rw [List.map_map]
    conv => lhs; rw [← List.map_id l]
    exact List.map_congr_left fun z hz' => by
      have := (hz z hz').1
      simp; omega
  refine ⟨l.map Int.toNat, hmap, fun x hx => ?_, ?_⟩
  · obtain ⟨z, hz', rfl⟩ := List.mem_map.1 hx
    have := hz z hz'
    omega
  · have step : ∀ (d i x y : Nat), (l.map Int.toNat)[i]? = some x → (l.map Int.toNat)[i + d]? = some y → x ≤ y := by
      intro d
      induction d with
      | zero => intro i x y hx hy; rw [Nat.add_zero, hx] at hy; injection hy with hy; omega
      | succ d ih =>
        intro i x y hx hy
        have hlt : i + (d + 1) < l.length := by
          rcases Nat.lt_or_ge (i + (d + 1)) l.length with h1 | h1
          · exact h1
          · rw [List.getElem?_eq_none (by rw [List.length_map]; exact h1)] at hy; cases hy
        have hm : (l.map Int.toNat)[i + d]? = some (l[i + d]'(by omega)).toNat := by rw [List.getElem?_map, List.getElem?_eq_getElem (by omega)]; rfl
        have h1 := ih i x _ hx hm
        have h2 := (h (i + (d + 1)) (l[i + (d + 1)]'hlt) hlt (List.getElem?_eq_getElem hlt)).2.2 (l[i + d]'(by omega)) (by omega) (by rw [show i + (d + 1) - 1 = i + d by omega]; exact List.getElem?_eq_getElem (by omega))
        rw [List.getElem?_map, List.getElem?_eq_getElem hlt] at hy
        injection hy with hy
        subst hy
        omega
    intro i j x y hij hx hy
    have := step (j - i) i x y hx
    rw [show i + (j - i) = j by omega] at this
    exact this hy
theorem mem_at {cs : List Nat} {t k : Nat} (hs : ∀ (i j x y : Nat), i ≤ j → cs[i]? = some x → cs[j]? = some y → x ≤ y) (hb : ∀ (i x : Nat), i < k → cs[i]? = some x → x < t) (ha : ∀ x, cs[k]? = some x → t ≤ x) : t ∈ cs ↔ cs[k]? = some t := by
  constructor
  · intro h
    obtain ⟨i, hi, e⟩ := List.getElem_of_mem h
    have hit : cs[i]? = some t := by rw [List.getElem?_eq_getElem hi, e]
    have hki : k ≤ i := Nat.le_of_not_lt fun h2 => by have := hb i t h2 hit; omega
    have hk : k < cs.length := by omega
    have hx := List.getElem?_eq_getElem hk
    have h1 := ha _ hx
    have h2 := hs k i _ _ hki hx hit
    rw [hx]; congr 1; omega
  · exact fun h => List.mem_of_getElem? h
end Go.Proofs.Ytcafofffgmaepaa
/- The document's own Chunks of layer 9: the walk. -/
namespace Go.Proofs.Ytcafofffgmaepaa
open Go.RowKit
set_option linter.unusedVariables false
set_option linter.unusedSimpArgs false
theorem chunk_count {room : Nat} {cuts xs : List Nat} : ∀ t, (chunkN room cuts xs t).1.length ≤ t
  | 0 => Nat.le_refl _
  | t + 1 => by
    have ih := chunk_count (room := room) (cuts := cuts) (xs := xs) t
    rw [chunkN_succ]
    by_cases h : isEnd room cuts (chunkN room cuts xs t).2 t
    · rw [if_pos h]
      show ((chunkN room cuts xs t).1 ++ [_]).length ≤ t + 1
      rw [List.length_append]; simp; omega
    · rw [if_neg h]; omega
set_option maxRecDepth 100000 in
set_option maxHeartbeats 4000000 in
theorem rchunks_in (G S P n m : Nat) (g1 : 1 ≤ G) (g2 : G ≤ 255) (s1 : 1 ≤ S) (s2 : S ≤ 65535) (hP : (G : Int) * (S : Int) = (P : Int)) (p1 : 5 ≤ P) (p2 : P ≤ 16711425) (hn : n ≤ 100000) (hm : m ≤ 140737488351232) (A A' : Option Addr) (c c' : Nat) (xs cs : List Nat) (w : World) (h : Bytes w w.heap.size A n xs) (hc : n ≤ c) (h' : IntsAt w w.heap.size A' m (cs.map fun x : Nat => (x : Int))) (hle : ∀ x ∈ cs, x ≤ n) (hso : ∀ (i j x y : Nat), i ≤ j → cs[i]? = some x → cs[j]? = some y → x ≤ y) :
    Calls Try.prog 50 #[.slice A n c, .slice A' m c', .int .i64 (G : Int), .int .i64 (S : Int)] w (NewChunks w (chunkN (P - 4) cs xs (n + 1)).1 (xs.drop (chunkN (P - 4) cs xs (n + 1)).2) 0) := by
  have H := Lib.hid h
  have HI := Lib.hid h'
  have HXL : Hid (xs.length = n) := h.length
  have HML : Hid (cs.length = m) := by have := h'.1; rwa [List.length_map] at this
  have HLE := Lib.hid hle
  have HSO := Lib.hid hso
  obtain ⟨room, hroom⟩ : ∃ room, P - 4 = room := ⟨_, rfl⟩
  have hr1 : 1 ≤ room := by omega
  have hrb : room ≤ 16711421 := by omega
  have HRM := Lib.hid hroom
  have hroomC := rroom_in G S P g1 g2 s1 s2 hP p1 p2 w
  rw [hroom] at hroomC ⊢
  have HRC := Lib.hid hroomC
  clear h h' hle hso hroom hroomC hP
  go_enter Try.func50, Try.ntmps50
  go_wp2_with fail
  refine HRC.out.mono ?_
  rintro e w1 ⟨rfl, rfl⟩
  go_wp2_with fail
  go_loopw [13] (fun iv wr => ∃ i : Nat, i ≤ m ∧ iv = .int .i64 i ∧ Keep w wr) (fun iv _ => m - (intOf iv).toNat)
  case atStart => exact ⟨0, by omega, rfl, Keep.refl w⟩
  case round =>
    obtain ⟨i, hi, rfl, hk⟩ := hrel
    have HK := Lib.hid hk
    have f1 : (0 : Int) ≤ (i : Int) := Int.natCast_nonneg _
    by_cases hlt : i < m
    · have f2 : (i : Int) < (m : Int) := by omega
      obtain ⟨b, off, rfl, hb, hcell⟩ := (HI.out.keep (Nat.le_refl _) hk).2 (by omega)
      have hx := List.getElem?_eq_getElem (l := cs) (i := i) (by rw [HML.out]; exact hlt)
      obtain ⟨x, hxx⟩ : ∃ x, cs[i]'(by rw [HML.out]; exact hlt) = x := ⟨_, rfl⟩
      rw [hxx] at hx
      have c1 := hcell i (x : Int) (by rw [List.getElem?_map, hx]; rfl)
      have hxn := HLE.out x (List.mem_of_getElem? hx)
      have d1 : decide ((x : Int) < 0) = false := decide_eq_false (by omega)
      have d2 : decide ((n : Int) < (x : Int)) = false := decide_eq_false (by omega)
      have d2' : decide (n < x) = false := decide_eq_false (by omega)
      by_cases h0 : i = 0
      · have d3 : decide ((0 : Int) < (i : Int)) = false := decide_eq_false (by omega)
        have d3' : decide (0 < i) = false := decide_eq_false (by omega)
        have h00 := Lib.hid h0
        clear h0 hk hx hxx hcell hb
        go_wp2_with fail
        go_quiet (fail)
        go_wp2_with fail
        go_roundw
        case rel => exact ⟨i + 1, by omega, by go_num, HK.out.drewN _⟩
        case measure => simp [intOf]; omega
      · have d3 : decide ((0 : Int) < (i : Int)) = true := decide_eq_true (by omega)
        have d3' : decide (0 < i) = true := decide_eq_true (by omega)
        obtain ⟨i0, hi0⟩ : ∃ i0, i0 + 1 = i := ⟨i - 1, by omega⟩
        have hy := List.getElem?_eq_getElem (l := cs) (i := i0) (by rw [HML.out]; omega)
        obtain ⟨y, hyy⟩ : ∃ y, cs[i0]'(by rw [HML.out]; omega) = y := ⟨_, rfl⟩
        rw [hyy] at hy
        have c2 := hcell i0 (y : Int) (by rw [List.getElem?_map, hy]; rfl)
        have hyx := HSO.out i0 i y x (by omega) hy hx
        have w1 : IntKind.i64.wrap ((i : Int) - 1) = (i0 : Int) := by rw [show (i : Int) - 1 = (i0 : Int) by omega]; exact IntWalk.i64_in _ (by omega)
        have f3 : (0 : Int) ≤ (i0 : Int) := Int.natCast_nonneg _
        have f4 : (i0 : Int) < (m : Int) := by omega
        have d4 : decide ((x : Int) < (y : Int)) = false := decide_eq_false (by omega)
        have d4' : decide (x < y) = false := decide_eq_false (by omega)
        have HI0 := Lib.hid hi0
        clear h0 hk hx hxx hy hyy hcell hb hi0
        go_wp2_with fail
        go_quiet (fail)
        go_wp2_with fail
        go_roundw
        case rel => exact ⟨i + 1, by omega, by go_num, HK.out.drewN _⟩
        case measure => simp [intOf]; omega
    · obtain rfl : m = i := by omega
      obtain ⟨wy, rfl⟩ : ∃ wy, wy = wr := ⟨_, rfl⟩
      clear hk hlt
      go_wp2_with fail
      go_loopw [14, 15, 16, 17] (fun ov fv kv tv wr => ∃ (t f k L : Nat) (Ao : Option Addr) (co : Nat) (rs : List RowV), t ≤ n + 1 ∧ tv = .int .i64 t ∧ fv = .int .i64 f ∧ kv = .int .i64 k ∧ k ≤ m ∧ ov = .slice Ao L co ∧ Laying wy wr Ao L co rs ∧ chunkN room cs xs t = (rowsXs rs, f) ∧ (∀ (i x : Nat), i < k → cs[i]? = some x → x < t)) (fun _ _ _ tv _ => n + 1 - (intOf tv).toNat)
      case atStart => exact ⟨0, 0, 0, 0, none, 0, [], by omega, rfl, rfl, rfl, by omega, rfl, Laying.nothing wy, rfl, fun i x hi => by omega⟩
      case round =>
        obtain ⟨t, f, k, L, Ao, co, rs, ht, rfl, rfl, rfl, hkm, rfl, hl, hch, hkc⟩ := hrel
        have HL := Lib.hid hl
        have HCH := Lib.hid hch
        have HKC := Lib.hid hkc
        have hfr := chunk_from (room := room) (cuts := cs) (xs := xs) hr1 t
        rw [hch] at hfr
        obtain ⟨hf1, hf2⟩ : f ≤ t - 1 ∧ t ≤ f + room := hfr
        have hLl : L ≤ t := by
          have h1 := chunk_count (room := room) (cuts := cs) (xs := xs) t
          rw [hch] at h1
          have h2 := hl.1.length
          have h3 : (rowsXs rs).length ≤ t := h1
          rw [rowsXs_len, h2] at h3
          exact h3
        clear hl hch hkc
        have f1 : (0 : Int) ≤ (t : Int) := Int.natCast_nonneg _
        by_cases htn : t ≤ n
        · have f2 : (t : Int) ≤ (n : Int) := by omega
          obtain ⟨wz, rfl⟩ : ∃ wz, wz = wr := ⟨_, rfl⟩
          go_wp2_with fail
          go_loopw [16] (fun kv wr => ∃ k : Nat, k ≤ m ∧ kv = .int .i64 k ∧ wr = wz ∧ ∀ (i x : Nat), i < k → cs[i]? = some x → x < t) (fun kv _ => m - (intOf kv).toNat)
          case atStart => exact ⟨k, hkm, rfl, rfl, HKC.out⟩
          case round =>
            obtain ⟨k, hkm, rfl, rfl, hkc⟩ := hrel
            have HKC := Lib.hid hkc
            clear hkc
            have f3 : (0 : Int) ≤ (k : Int) := Int.natCast_nonneg _
            by_cases hlt : k < m
            · have f4 : (k : Int) < (m : Int) := by omega
              have f4d : decide ((k : Int) < (m : Int)) = true := decide_eq_true f4
              have f4d' : decide (k < m) = true := decide_eq_true hlt
              obtain ⟨b, off, rfl, hb, hcell⟩ := (HI.out.keep (Nat.le_refl _) (HK.out.trans HL.out.2.2)).2 (by omega)
              have hx := List.getElem?_eq_getElem (l := cs) (i := k) (by rw [HML.out]; exact hlt)
              obtain ⟨x, hxx⟩ : ∃ x, cs[k]'(by rw [HML.out]; exact hlt) = x := ⟨_, rfl⟩
              rw [hxx] at hx
              have c1 := hcell k (x : Int) (by rw [List.getElem?_map, hx]; rfl)
              have HX := Lib.hid hx
              by_cases hxt : x < t
              · have d1 : decide ((x : Int) < (t : Int)) = true := decide_eq_true (by omega)
                have d1' : decide (x < t) = true := decide_eq_true hxt
                have HXT := Lib.hid hxt
                clear hx hxx hcell hb hxt
                go_wp2_with fail
                go_roundw
                case rel => exact ⟨k + 1, by omega, by go_num, by first | trivial | rfl, fun i y hi hy => by
                  rcases Nat.lt_or_ge i k with h3 | h3
                  · exact HKC.out i y h3 hy
                  · obtain rfl : i = k := by omega
                    rw [HX.out] at hy
                    injection hy with hy
                    subst hy; exact HXT.out⟩
                case measure => simp [intOf]; omega
              · have d1 : decide ((x : Int) < (t : Int)) = false := decide_eq_false (by omega)
                have d1' : decide (x < t) = false := decide_eq_false hxt
                have HMA : Hid (t ∈ cs ↔ x = t) := (mem_at HSO.out HKC.out fun z hz => by rw [HX.out] at hz; injection hz with hz; omega).trans (by rw [HX.out]; exact ⟨fun e => Option.some.inj e, fun e => by rw [e]⟩)
                have HCL : Hid (cs[k]? = some x) := hx
                clear hx hxx hcell hb hxt
                by_cases hd : t - f = room
                · have d2 : (((t - f : Nat) : Int) == (room : Int)) = true := beq_iff_eq.2 (by omega)
                  have e1 : (t : Int) - (f : Int) = ((t - f : Nat) : Int) := by omega
                  have w1 : IntKind.i64.wrap ((t - f : Nat) : Int) = ((t - f : Nat) : Int) := IntWalk.i64_in _ (by omega)
                  obtain ⟨df, hdf⟩ : ∃ df, t - f = df := ⟨_, rfl⟩
                  rw [hdf] at e1 w1 d2
                  have HDF := Lib.hid hdf
                  have HE : Hid (isEnd room cs f t) := Or.inl hd
                  have hHE := HE.out
                  have hsu := chunkN_succ (room := room) (cuts := cs) (xs := xs) t
                  rw [HCH.out, if_pos hHE] at hsu
                  have HSU := Lib.hid hsu
                  have sl : ∀ w, (Instr.slice 22 (.slice A n c) (some (.int .i64 (f : Int))) (some (.int .i64 (t : Int))) none).run Try.prog w = .ok (.slice (dropA A c f) (t - f) (c - f)) w := fun w => run_piece f t n c A (by omega) (by omega) w
                  have HB := Lib.hid (((H.out.keep (Nat.le_refl _) (HK.out.trans HL.out.2.2)).mono (HK.out.trans HL.out.2.2).size).piece (f := f) (t := t) (c := c) (by omega) htn hc)
                  clear hHE hsu hd hdf
                  go_wp2_with fail
                  refine (rown_any _ _ _ _ _ wr HB.out (by omega)).mono ?_
                  rintro e w8 ⟨A8, n8, c8, rfl, o8, k8⟩
                  have HL8 := Lib.hid (HL.out.later k8)
                  have HO8 := Lib.hid (o8.lower HL.out.2.2.size)
                  clear o8 k8
                  go_wp2_with (at_builtin; refine wpList_append_row rfl _ _ 49 rfl ⟨A8, n8, c8, pieceN xs f t⟩ Try.underlying49 infoRow rfl (HL8.out.1.alloc _) rfl (by rw [World.cell?_alloc_at _ _ _ _ (by simp)]; rfl) (by omega) (by have := HL8.out.2.2.size; simp at this ⊢; omega) ?_)
                  intro A9 c9 w9 h9 hgr9 hb9
                  have HL9 := Lib.hid (HL8.out.more (row_apart HL8.out HO8.out) h9 hgr9 (by simpa using hb9))
                  clear h9 hgr9 hb9
                  go_wp2_with fail
                  go_roundw
                  case rel => exact ⟨t + 1, t, k, L + 1, A9, c9, _, by omega, by go_num, rfl, rfl, hkm, rfl, HL9.out, by rw [HSU.out]; simp [rowsXs], fun i x hi hx => Nat.lt_succ_of_lt (HKC.out i x hi hx)⟩
                  case measure => simp [intOf]; omega
                · have d2 : (((t - f : Nat) : Int) == (room : Int)) = false := beq_eq_false_iff_ne.2 (by omega)
                  have e1 : (t : Int) - (f : Int) = ((t - f : Nat) : Int) := by omega
                  have w1 : IntKind.i64.wrap ((t - f : Nat) : Int) = ((t - f : Nat) : Int) := IntWalk.i64_in _ (by omega)
                  obtain ⟨df, hdf⟩ : ∃ df, t - f = df := ⟨_, rfl⟩
                  rw [hdf] at e1 w1 d2
                  have HDF := Lib.hid hdf
                  by_cases hft : f < t
                  · have d3 : decide ((f : Int) < (t : Int)) = true := decide_eq_true (by omega)
                    have d3' : decide (f < t) = true := decide_eq_true hft
                    by_cases hxt : x = t
                    · have d4 : ((x : Int) == (t : Int)) = true := beq_iff_eq.2 (by omega)
                      have HE : Hid (isEnd room cs f t) := Or.inr ⟨hft, HMA.out.2 hxt⟩
                      clear hxt
                      have hHE := HE.out
                      have hsu := chunkN_succ (room := room) (cuts := cs) (xs := xs) t
                      rw [HCH.out, if_pos hHE] at hsu
                      have HSU := Lib.hid hsu
                      have sl : ∀ w, (Instr.slice 22 (.slice A n c) (some (.int .i64 (f : Int))) (some (.int .i64 (t : Int))) none).run Try.prog w = .ok (.slice (dropA A c f) (t - f) (c - f)) w := fun w => run_piece f t n c A (by omega) (by omega) w
                      have HB := Lib.hid (((H.out.keep (Nat.le_refl _) (HK.out.trans HL.out.2.2)).mono (HK.out.trans HL.out.2.2).size).piece (f := f) (t := t) (c := c) (by omega) htn hc)
                      clear hHE hsu hd hdf
                      go_wp2_with fail
                      refine (rown_any _ _ _ _ _ wr HB.out (by omega)).mono ?_
                      rintro e w8 ⟨A8, n8, c8, rfl, o8, k8⟩
                      have HL8 := Lib.hid (HL.out.later k8)
                      have HO8 := Lib.hid (o8.lower HL.out.2.2.size)
                      clear o8 k8
                      go_wp2_with (at_builtin; refine wpList_append_row rfl _ _ 49 rfl ⟨A8, n8, c8, pieceN xs f t⟩ Try.underlying49 infoRow rfl (HL8.out.1.alloc _) rfl (by rw [World.cell?_alloc_at _ _ _ _ (by simp)]; rfl) (by omega) (by have := HL8.out.2.2.size; simp at this ⊢; omega) ?_)
                      intro A9 c9 w9 h9 hgr9 hb9
                      have HL9 := Lib.hid (HL8.out.more (row_apart HL8.out HO8.out) h9 hgr9 (by simpa using hb9))
                      clear h9 hgr9 hb9
                      go_wp2_with fail
                      go_roundw
                      case rel => exact ⟨t + 1, t, k, L + 1, A9, c9, _, by omega, by go_num, rfl, rfl, hkm, rfl, HL9.out, by rw [HSU.out]; simp [rowsXs], fun i x hi hx => Nat.lt_succ_of_lt (HKC.out i x hi hx)⟩
                      case measure => simp [intOf]; omega
                    · have d4 : ((x : Int) == (t : Int)) = false := beq_eq_false_iff_ne.2 (by omega)
                      have HE : Hid (¬ isEnd room cs f t) := fun h => h.elim hd fun h => hxt (HMA.out.1 h.2)
                      clear hxt
                      have hsu := chunkN_succ (room := room) (cuts := cs) (xs := xs) t
                      rw [if_neg (by rw [HCH.out]; exact HE.out), HCH.out] at hsu
                      have HSU := Lib.hid hsu
                      clear hsu hd hdf
                      go_wp2_with fail
                      go_roundw
                      case rel => exact ⟨t + 1, f, k, L, Ao, co, rs, by omega, by go_num, rfl, rfl, hkm, rfl, HL.out, HSU.out, fun i x hi hx => Nat.lt_succ_of_lt (HKC.out i x hi hx)⟩
                      case measure => simp [intOf]; omega
                  · have d3 : decide ((f : Int) < (t : Int)) = false := decide_eq_false (by omega)
                    have d3' : decide (f < t) = false := decide_eq_false hft
                    have HE : Hid (¬ isEnd room cs f t) := fun h => h.elim hd fun h => hft h.1
                    have hsu := chunkN_succ (room := room) (cuts := cs) (xs := xs) t
                    rw [if_neg (by rw [HCH.out]; exact HE.out), HCH.out] at hsu
                    have HSU := Lib.hid hsu
                    clear hsu hd hdf
                    go_wp2_with fail
                    go_roundw
                    case rel => exact ⟨t + 1, f, k, L, Ao, co, rs, by omega, by go_num, rfl, rfl, hkm, rfl, HL.out, HSU.out, fun i x hi hx => Nat.lt_succ_of_lt (HKC.out i x hi hx)⟩
                    case measure => simp [intOf]; omega
            · obtain rfl : m = k := by omega
              have f4d : decide ((m : Int) < (m : Int)) = false := decide_eq_false (by omega)
              have HMA : Hid (¬ t ∈ cs) := fun h => by
                obtain ⟨i, hi, e⟩ := List.getElem_of_mem h
                have := HKC.out i t (by rw [← HML.out]; exact hi) (by rw [List.getElem?_eq_getElem hi, e])
                omega
              clear hlt
              by_cases hd : t - f = room
              · have d2 : (((t - f : Nat) : Int) == (room : Int)) = true := beq_iff_eq.2 (by omega)
                have e1 : (t : Int) - (f : Int) = ((t - f : Nat) : Int) := by omega
                have w1 : IntKind.i64.wrap ((t - f : Nat) : Int) = ((t - f : Nat) : Int) := IntWalk.i64_in _ (by omega)
                obtain ⟨df, hdf⟩ : ∃ df, t - f = df := ⟨_, rfl⟩
                rw [hdf] at e1 w1 d2
                have HDF := Lib.hid hdf
                have HE : Hid (isEnd room cs f t) := Or.inl hd
                have hHE := HE.out
                have hsu := chunkN_succ (room := room) (cuts := cs) (xs := xs) t
                rw [HCH.out, if_pos hHE] at hsu
                have HSU := Lib.hid hsu
                have sl : ∀ w, (Instr.slice 22 (.slice A n c) (some (.int .i64 (f : Int))) (some (.int .i64 (t : Int))) none).run Try.prog w = .ok (.slice (dropA A c f) (t - f) (c - f)) w := fun w => run_piece f t n c A (by omega) (by omega) w
                have HB := Lib.hid (((H.out.keep (Nat.le_refl _) (HK.out.trans HL.out.2.2)).mono (HK.out.trans HL.out.2.2).size).piece (f := f) (t := t) (c := c) (by omega) htn hc)
                clear hHE hsu hd hdf
                go_wp2_with fail
                refine (rown_any _ _ _ _ _ wr HB.out (by omega)).mono ?_
                rintro e w8 ⟨A8, n8, c8, rfl, o8, k8⟩
                have HL8 := Lib.hid (HL.out.later k8)
                have HO8 := Lib.hid (o8.lower HL.out.2.2.size)
                clear o8 k8
                go_wp2_with (at_builtin; refine wpList_append_row rfl _ _ 49 rfl ⟨A8, n8, c8, pieceN xs f t⟩ Try.underlying49 infoRow rfl (HL8.out.1.alloc _) rfl (by rw [World.cell?_alloc_at _ _ _ _ (by simp)]; rfl) (by omega) (by have := HL8.out.2.2.size; simp at this ⊢; omega) ?_)
                intro A9 c9 w9 h9 hgr9 hb9
                have HL9 := Lib.hid (HL8.out.more (row_apart HL8.out HO8.out) h9 hgr9 (by simpa using hb9))
                clear h9 hgr9 hb9
                go_wp2_with fail
                go_roundw
                case rel => exact ⟨t + 1, t, m, L + 1, A9, c9, _, by omega, by go_num, rfl, rfl, hkm, rfl, HL9.out, by rw [HSU.out]; simp [rowsXs], fun i x hi hx => Nat.lt_succ_of_lt (HKC.out i x hi hx)⟩
                case measure => simp [intOf]; omega
              · have d2 : (((t - f : Nat) : Int) == (room : Int)) = false := beq_eq_false_iff_ne.2 (by omega)
                have e1 : (t : Int) - (f : Int) = ((t - f : Nat) : Int) := by omega
                have w1 : IntKind.i64.wrap ((t - f : Nat) : Int) = ((t - f : Nat) : Int) := IntWalk.i64_in _ (by omega)
                obtain ⟨df, hdf⟩ : ∃ df, t - f = df := ⟨_, rfl⟩
                rw [hdf] at e1 w1 d2
                have HDF := Lib.hid hdf
                by_cases hft : f < t
                · have d3 : decide ((f : Int) < (t : Int)) = true := decide_eq_true (by omega)
                  have d3' : decide (f < t) = true := decide_eq_true hft
                  have HE : Hid (¬ isEnd room cs f t) := fun h => h.elim hd fun h => HMA.out h.2
                  have hsu := chunkN_succ (room := room) (cuts := cs) (xs := xs) t
                  rw [if_neg (by rw [HCH.out]; exact HE.out), HCH.out] at hsu
                  have HSU := Lib.hid hsu
                  clear hsu hd hdf
                  go_wp2_with fail
                  go_roundw
                  case rel => exact ⟨t + 1, f, m, L, Ao, co, rs, by omega, by go_num, rfl, rfl, hkm, rfl, HL.out, HSU.out, fun i x hi hx => Nat.lt_succ_of_lt (HKC.out i x hi hx)⟩
                  case measure => simp [intOf]; omega
                · have d3 : decide ((f : Int) < (t : Int)) = false := decide_eq_false (by omega)
                  have d3' : decide (f < t) = false := decide_eq_false hft
                  have HE : Hid (¬ isEnd room cs f t) := fun h => h.elim hd fun h => hft h.1
                  have hsu := chunkN_succ (room := room) (cuts := cs) (xs := xs) t
                  rw [if_neg (by rw [HCH.out]; exact HE.out), HCH.out] at hsu
                  have HSU := Lib.hid hsu
                  clear hsu hd hdf
                  go_wp2_with fail
                  go_roundw
                  case rel => exact ⟨t + 1, f, m, L, Ao, co, rs, by omega, by go_num, rfl, rfl, hkm, rfl, HL.out, HSU.out, fun i x hi hx => Nat.lt_succ_of_lt (HKC.out i x hi hx)⟩
                  case measure => simp [intOf]; omega
        · obtain rfl : t = n + 1 := by omega
          have hfn : f ≤ n := by omega
          have hdrop : ∀ w, (Instr.slice 22 (.slice A n c) (some (.int .i64 (f : Int))) none none).run Try.prog w = .ok (.slice (dropA A c f) (n - f) (c - f)) w := fun w => run_drop (t := 22) (z := .int .u8 0) (m := 1) (by kernel_rfl) (by kernel_rfl) n c f A hfn w
          have HB : Hid (Bytes wr wr.heap.size (dropA A c f) (n - f) (xs.drop f)) := by
            have := ((H.out.keep (Nat.le_refl _) (HK.out.trans HL.out.2.2)).mono (HK.out.trans HL.out.2.2).size).piece (f := f) (t := n) (c := c) hfn (Nat.le_refl _) hc
            rwa [pieceN, List.take_of_length_le (by rw [List.length_drop, HXL.out]; exact Nat.le_refl _)] at this
          go_wp2_with fail
          refine (rown_any _ _ _ _ _ wr HB.out (by omega)).mono ?_
          rintro e w8 ⟨A8, n8, c8, rfl, o8, k8⟩
          have HN : Hid (NewChunks w (chunkN room cs xs (n + 1)).1 (xs.drop (chunkN room cs xs (n + 1)).2) 0 (.returned (.tuple #[.slice Ao L co, .slice A8 n8 c8, .int .i64 0])) w8) := by
            have hl8 := HL.out.later k8
            refine ⟨Ao, L, co, A8, n8, c8, rfl, ⟨rs, RowsIn.of_own hl8.1 (fun r hr => (hl8.2.1 r hr).mono fun b hb => ⟨Nat.le_trans HK.out.size hb.1, hb.2.1⟩) (fun b hb => ⟨Nat.le_trans HK.out.size (hl8.1.lt b hb).1, (hl8.1.lt b hb).2⟩), ownrows_le hl8.1, by rw [HCH.out]⟩, ?_, HK.out.trans hl8.2.2⟩
            rw [HCH.out]
            exact o8.lower (Nat.le_trans HK.out.size HL.out.2.2.size)
          clear o8 k8
          go_wp2_with fail
          go_ret3
          exact HN.out
end Go.Proofs.Ytcafofffgmaepaa
/- The document's own Chunks of layer 9: cuts that do not rise. -/
namespace Go.Proofs.Ytcafofffgmaepaa
open Go.RowKit
set_option linter.unusedVariables false
set_option linter.unusedSimpArgs false
theorem GoodC.next {n k : Nat} {l : List Int} (h : GoodC n l k) (x : Int) (hx : l[k]? = some x) (h1 : 0 ≤ x) (h2 : x ≤ (n : Int)) (h3 : ∀ y, 0 < k → l[k - 1]? = some y → y ≤ x) : GoodC n l (k + 1) := fun i z hi hz => by
  rcases Nat.lt_or_ge i k with h4 | h4
  · exact h i z h4 hz
  · obtain rfl : i = k := by omega
    rw [hx] at hz
    injection hz with hz
    subst hz
    exact ⟨h1, h2, h3⟩
set_option maxRecDepth 100000 in
set_option maxHeartbeats 4000000 in
theorem rchunks_bad (G S P n m : Nat) (g1 : 1 ≤ G) (g2 : G ≤ 255) (s1 : 1 ≤ S) (s2 : S ≤ 65535) (hP : (G : Int) * (S : Int) = (P : Int)) (p1 : 5 ≤ P) (p2 : P ≤ 16711425) (hn : n ≤ 140737488351232) (hm : m ≤ 140737488351232) (A A' : Option Addr) (c c' : Nat) (l : List Int) (w : World) (h' : IntsAt w w.heap.size A' m l) (hl : ∀ z ∈ l, -9223372036854775808 ≤ z ∧ z ≤ 9223372036854775807) (hbad : ¬ GoodC n l m) :
    Calls Try.prog 50 #[.slice A n c, .slice A' m c', .int .i64 (G : Int), .int .i64 (S : Int)] w (NewChunks w [] [] 1) := by
  have HI := Lib.hid h'
  have HML : Hid (l.length = m) := h'.1
  have HBAD := Lib.hid hbad
  have HRC := Lib.hid (rroom_in G S P g1 g2 s1 s2 hP p1 p2 w)
  clear h' hbad hP
  go_enter Try.func50, Try.ntmps50
  go_wp2_with fail
  refine HRC.out.mono ?_
  rintro e w1 ⟨rfl, rfl⟩
  go_wp2_with fail
  go_loopw [13] (fun iv wr => ∃ i : Nat, i ≤ m ∧ iv = .int .i64 i ∧ Keep w wr ∧ GoodC n l i) (fun iv _ => m - (intOf iv).toNat)
  case atStart => exact ⟨0, by omega, rfl, Keep.refl w, fun i z hi => by omega⟩
  case round =>
    obtain ⟨i, hi, rfl, hk, hgo⟩ := hrel
    have HK := Lib.hid hk
    have HGO := Lib.hid hgo
    clear hgo
    have f1 : (0 : Int) ≤ (i : Int) := Int.natCast_nonneg _
    by_cases hlt : i < m
    · have f2 : (i : Int) < (m : Int) := by omega
      obtain ⟨b, off, rfl, hb, hcell⟩ := (HI.out.keep (Nat.le_refl _) hk).2 (by omega)
      have hx := List.getElem?_eq_getElem (l := l) (i := i) (by rw [HML.out]; exact hlt)
      obtain ⟨x, hxx⟩ : ∃ x, l[i]'(by rw [HML.out]; exact hlt) = x := ⟨_, rfl⟩
      rw [hxx] at hx
      have c1 := hcell i x hx
      have HX := Lib.hid hx
      by_cases hx0 : x < 0
      · have d1 : decide (x < 0) = true := decide_eq_true hx0
        clear hk hx hxx hcell hb hx0
        go_wp2_with fail
        go_quiet (fail)
        go_wp2_with fail
        go_ret3
        exact NewChunks.nil (HK.out.drewN _) 1
      · have d1 : decide (x < 0) = false := decide_eq_false hx0
        by_cases hxn : (n : Int) < x
        · have d2 : decide ((n : Int) < x) = true := decide_eq_true hxn
          clear hk hx hxx hcell hb hx0 hxn
          go_wp2_with fail
          go_quiet (fail)
          go_wp2_with fail
          go_ret3
          exact NewChunks.nil (HK.out.drewN _) 1
        · have d2 : decide ((n : Int) < x) = false := decide_eq_false hxn
          by_cases h0 : i = 0
          · have d3 : decide ((0 : Int) < (i : Int)) = false := decide_eq_false (by omega)
            have d3' : decide (0 < i) = false := decide_eq_false (by omega)
            have HN : Hid (GoodC n l (i + 1)) := HGO.out.next x HX.out (by omega) (by omega) fun y hy => by omega
            clear h0 hk hx hxx hcell hb hx0 hxn
            go_wp2_with fail
            go_quiet (fail)
            go_wp2_with fail
            go_roundw
            case rel => exact ⟨i + 1, by omega, by go_num, HK.out.drewN _, HN.out⟩
            case measure => simp [intOf]; omega
          · have d3 : decide ((0 : Int) < (i : Int)) = true := decide_eq_true (by omega)
            have d3' : decide (0 < i) = true := decide_eq_true (by omega)
            obtain ⟨i0, hi0⟩ : ∃ i0, i0 + 1 = i := ⟨i - 1, by omega⟩
            have hy := List.getElem?_eq_getElem (l := l) (i := i0) (by rw [HML.out]; omega)
            obtain ⟨y, hyy⟩ : ∃ y, l[i0]'(by rw [HML.out]; omega) = y := ⟨_, rfl⟩
            rw [hyy] at hy
            have c2 := hcell i0 y hy
            have HY := Lib.hid hy
            have HI0 := Lib.hid hi0
            have w1 : IntKind.i64.wrap ((i : Int) - 1) = (i0 : Int) := by rw [show (i : Int) - 1 = (i0 : Int) by omega]; exact IntWalk.i64_in _ (by omega)
            have f3 : (0 : Int) ≤ (i0 : Int) := Int.natCast_nonneg _
            have f4 : (i0 : Int) < (m : Int) := by omega
            by_cases hxy : x < y
            · have d4 : decide (x < y) = true := decide_eq_true hxy
              clear h0 hk hx hxx hy hyy hcell hb hi0 hx0 hxn hxy
              go_wp2_with fail
              go_quiet (fail)
              go_wp2_with fail
              go_ret3
              exact NewChunks.nil (HK.out.drewN _) 1
            · have d4 : decide (x < y) = false := decide_eq_false hxy
              have HN : Hid (GoodC n l (i + 1)) := HGO.out.next x HX.out (by omega) (by omega) fun z _ hz => by
                rw [show i - 1 = i0 by omega, HY.out] at hz
                injection hz with hz
                omega
              clear h0 hk hx hxx hy hyy hcell hb hi0 hx0 hxn hxy
              go_wp2_with fail
              go_quiet (fail)
              go_wp2_with fail
              go_roundw
              case rel => exact ⟨i + 1, by omega, by go_num, HK.out.drewN _, HN.out⟩
              case measure => simp [intOf]; omega
    · obtain rfl : i = m := by omega
      exact absurd HGO.out HBAD.out
end Go.Proofs.Ytcafofffgmaepaa
/- Layer 9's statements: sizes brought into 1 to 40. -/
namespace Go.Proofs.Ytcafofffgmaepaa
open Go.RowKit
set_option linter.unusedVariables false
set_option linter.unusedSimpArgs false
/-- A size as the statements take it. -/
def sizeV (m x : Int) : Int := if 40 < x ∧ x ≤ m then 1 + x % 40 else x
theorem sizeV_low {m x : Int} (h : sizeV m x ≤ m) : sizeV m x ≤ 40 := by
  unfold sizeV at h ⊢
  split
  · omega
  · next hh => rw [if_neg hh] at h; omega
theorem MayG.forty {g s : Int} (h : MayG (sizeV 255 g) (sizeV 65535 s)) : ∃ G S P : Nat, sizeV 255 g = G ∧ sizeV 65535 s = S ∧ 1 ≤ G ∧ G ≤ 40 ∧ 1 ≤ S ∧ S ≤ 40 ∧ G * S = P ∧ 5 ≤ P ∧ P ≤ 1600 ∧ (G : Int) * (S : Int) = (P : Int) := by
  obtain ⟨G, S, P, e1, e2, a1, a2, a3, a4, a5, a6, a7, a8⟩ := h.nat
  have h1 : sizeV 255 g ≤ 40 := sizeV_low (by omega)
  have h2 : sizeV 65535 s ≤ 40 := sizeV_low (by omega)
  have hm : G * S ≤ 40 * 40 := Nat.mul_le_mul (by omega) (by omega)
  exact ⟨G, S, P, e1, e2, a1, by omega, a3, by omega, a5, a6, by omega, a8⟩
theorem sizeV_in {m x : Int} (hm : m ≤ 9223372036854775807) (h : -9223372036854775808 ≤ x ∧ x ≤ 9223372036854775807) : -9223372036854775808 ≤ sizeV m x ∧ sizeV m x ≤ 9223372036854775807 := by
  unfold sizeV; split <;> omega
theorem sizes_any (g s : Int) (w : World) :
    Calls Try.prog 8 #[.int .i64 g, .int .i64 s] w fun e w' => e = .returned (.tuple #[.int .i64 (sizeV 255 g), .int .i64 (sizeV 65535 s)]) ∧ w = w' := by
  by_cases h1 : 40 < g ∧ g ≤ 255
  · have a1 : decide (40 < g) = true := decide_eq_true h1.1
    have a2 : decide (g ≤ 255) = true := decide_eq_true h1.2
    have a3 : sizeV 255 g = 1 + g % 40 := if_pos h1
    have a4 : g.tmod 40 = g % 40 := Int.tmod_eq_emod_of_nonneg (by omega)
    have a5 : IntKind.i64.wrap (g % 40) = g % 40 := IntWalk.i64_in _ (by omega)
    have a6 : IntKind.i64.wrap (1 + g % 40) = 1 + g % 40 := IntWalk.i64_in _ (by omega)
    by_cases h2 : 40 < s ∧ s ≤ 65535
    · have c1 : decide (40 < s) = true := decide_eq_true h2.1
      have c2 : decide (s ≤ 65535) = true := decide_eq_true h2.2
      have c3 : sizeV 65535 s = 1 + s % 40 := if_pos h2
      have c4 : s.tmod 40 = s % 40 := Int.tmod_eq_emod_of_nonneg (by omega)
      have c5 : IntKind.i64.wrap (s % 40) = s % 40 := IntWalk.i64_in _ (by omega)
      have c6 : IntKind.i64.wrap (1 + s % 40) = 1 + s % 40 := IntWalk.i64_in _ (by omega)
      rw [a3, c3]
      clear h1 h2
      go_enter Try.func8, Try.ntmps8
      go_wp2_with fail
      go_ret2
      exact ⟨rfl, rfl⟩
    · have c3 : sizeV 65535 s = s := if_neg h2
      rw [a3, c3]
      by_cases h3 : 40 < s
      · have c1 : decide (40 < s) = true := decide_eq_true h3
        have c2 : decide (s ≤ 65535) = false := decide_eq_false (by omega)
        clear h1 h2 h3
        go_enter Try.func8, Try.ntmps8
        go_wp2_with fail
        go_ret2
        exact ⟨rfl, rfl⟩
      · have c1 : decide (40 < s) = false := decide_eq_false h3
        clear h1 h2 h3
        go_enter Try.func8, Try.ntmps8
        go_wp2_with fail
        go_ret2
        exact ⟨rfl, rfl⟩
  · have a3 : sizeV 255 g = g := if_neg h1
    rw [a3]
    by_cases h2 : 40 < s ∧ s ≤ 65535
    · have c1 : decide (40 < s) = true := decide_eq_true h2.1
      have c2 : decide (s ≤ 65535) = true := decide_eq_true h2.2
      have c3 : sizeV 65535 s = 1 + s % 40 := if_pos h2
      have c4 : s.tmod 40 = s % 40 := Int.tmod_eq_emod_of_nonneg (by omega)
      have c5 : IntKind.i64.wrap (s % 40) = s % 40 := IntWalk.i64_in _ (by omega)
      have c6 : IntKind.i64.wrap (1 + s % 40) = 1 + s % 40 := IntWalk.i64_in _ (by omega)
      rw [c3]
      by_cases h4 : 40 < g
      · have a1 : decide (40 < g) = true := decide_eq_true h4
        have a2 : decide (g ≤ 255) = false := decide_eq_false (by omega)
        clear h1 h2 h4
        go_enter Try.func8, Try.ntmps8
        go_wp2_with fail
        go_ret2
        exact ⟨rfl, rfl⟩
      · have a1 : decide (40 < g) = false := decide_eq_false h4
        clear h1 h2 h4
        go_enter Try.func8, Try.ntmps8
        go_wp2_with fail
        go_ret2
        exact ⟨rfl, rfl⟩
    · have c3 : sizeV 65535 s = s := if_neg h2
      rw [c3]
      by_cases h4 : 40 < g
      · have a1 : decide (40 < g) = true := decide_eq_true h4
        have a2 : decide (g ≤ 255) = false := decide_eq_false (by omega)
        by_cases h3 : 40 < s
        · have c1 : decide (40 < s) = true := decide_eq_true h3
          have c2 : decide (s ≤ 65535) = false := decide_eq_false (by omega)
          clear h1 h2 h3 h4
          go_enter Try.func8, Try.ntmps8
          go_wp2_with fail
          go_ret2
          exact ⟨rfl, rfl⟩
        · have c1 : decide (40 < s) = false := decide_eq_false h3
          clear h1 h2 h3 h4
          go_enter Try.func8, Try.ntmps8
          go_wp2_with fail
          go_ret2
          exact ⟨rfl, rfl⟩
      · have a1 : decide (40 < g) = false := decide_eq_false h4
        by_cases h3 : 40 < s
        · have c1 : decide (40 < s) = true := decide_eq_true h3
          have c2 : decide (s ≤ 65535) = false := decide_eq_false (by omega)
          clear h1 h2 h3 h4
          go_enter Try.func8, Try.ntmps8
          go_wp2_with fail
          go_ret2
          exact ⟨rfl, rfl⟩
        · have c1 : decide (40 < s) = false := decide_eq_false h3
          clear h1 h2 h3 h4
          go_enter Try.func8, Try.ntmps8
          go_wp2_with fail
          go_ret2
          exact ⟨rfl, rfl⟩
end Go.Proofs.Ytcafofffgmaepaa
