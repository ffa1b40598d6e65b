/- The contract of the document's own product of matrices. -/
import Derived.Test.YtcmjglmagkjdoaaRef
import Derived.Test.YtcmjglmagkjdoaaMatDefs
import Derived.Test.YtcmjglmagkjdoaaRegion
namespace Go.Proofs.Ytcmjglmagkjdoaa
open Go.RowKit
set_option linter.unusedSimpArgs false
set_option linter.unusedVariables false
theorem tab_set (n : Nat) (f : Nat → Nat) (k v : Nat) : (tab n f).set k v = tab n fun i => if i = k then v else f i := by
  refine list_ext (by simp [tab_length]) fun i hi => ?_
  simp [tab_length] at hi
  rw [tab_getD, if_pos hi, List.getD_eq_getElem?_getD, List.getElem?_set]
  by_cases e : k = i
  · subst e; simp [tab_length, hi]
  · rw [if_neg e, if_neg (fun h => e h.symm), ← List.getD_eq_getElem?_getD, tab_getD, if_pos hi]
theorem replicate_tab (n : Nat) : List.replicate n 0 = tab n fun _ => 0 := list_ext (by simp [tab_length]) fun i hi => by
  simp at hi
  rw [tab_getD, if_pos hi]; simp [List.getD_eq_getElem?_getD, hi]
theorem prodN_succ {M N : List (List Nat)} {n c k : Nat} {r : List Nat} (h : M[k]? = some r) : prodN M N n c (k + 1) = prodN M N n c k ++ [rowN r N n c] := by
  rw [prodN, List.take_add_one, h]; simp [prodN]
theorem rowsXs_get {rs : List RowV} {k : Nat} {r : RowV} (h : rs[k]? = some r) : (rowsXs rs)[k]? = some r.xs := by simp [rowsXs, h]
/-- A product's row, being laid: k numbers done, m steps of the next. -/
def partN (r : List Nat) (N : List (List Nat)) (n c k m : Nat) : List Nat := tab c fun i => if i < k then dotN r N i n else if i = k then dotN r N k m else 0
theorem partN_start (r : List Nat) (N : List (List Nat)) (n c : Nat) : List.replicate c 0 = partN r N n c 0 0 := by
  rw [replicate_tab]; exact tab_congr fun i _ => by simp [dotN, sumX]
theorem partN_next (r : List Nat) (N : List (List Nat)) (n c k : Nat) : partN r N n c k n = partN r N n c (k + 1) 0 := tab_congr fun i _ => by
  rcases Nat.lt_trichotomy i k with h | h | h
  · rw [if_pos h, if_pos (by omega)]
  · subst h; rw [if_neg (by omega), if_pos rfl, if_pos (by omega)]
  · rw [if_neg (by omega), if_neg (by omega), if_neg (by omega)]
    split
    · simp [dotN, sumX]
    · rfl
theorem partN_done (r : List Nat) (N : List (List Nat)) (n c : Nat) : partN r N n c c 0 = rowN r N n c := tab_congr fun i hi => by rw [if_pos hi]
theorem partN_at (r : List Nat) (N : List (List Nat)) (n c k m : Nat) (hk : k < c) : (partN r N n c k m).getD k 0 = dotN r N k m := by
  rw [partN, tab_getD, if_pos hk, if_neg (by omega), if_pos rfl]
theorem partN_step (r : List Nat) (N : List (List Nat)) (n c k m : Nat) : (partN r N n c k m).set k (dotN r N k (m + 1)) = partN r N n c k (m + 1) := by
  rw [partN, tab_set]
  exact tab_congr fun i _ => by
    by_cases h : i = k
    · subst h; rw [if_pos rfl, if_neg (by omega), if_pos rfl]
    · rw [if_neg h, if_neg h]; simp only [if_neg h]
set_option maxRecDepth 100000 in
set_option maxHeartbeats 4000000 in
theorem rmatmul_any (n c m cb : Nat) (A B : Option Addr) (F G : Nat → Prop) (rs rt : List RowV) (w : World) (h : RowsIn w F A n rs) (h' : RowsIn w G B m rt) (hF : ∀ b, F b → b < w.heap.size) (hG : ∀ b, G b → b < w.heap.size) (hn : n ≤ 100000) (hm : m ≤ 100000) (hcb : sizeC (rowsXs rt) ≤ 100000) (hca : sizeC (rowsXs rs) ≤ 100000) :
    Calls Try.prog 18 #[.slice A n c, .slice B m cb] w (NewRows w (mulV (rowsXs rs) (rowsXs rt)) (mulE (rowsXs rs) (rowsXs rt))) := by
  have H := Lib.hid h
  have H' := Lib.hid h'
  have HF := Lib.hid hF
  have HG := Lib.hid hG
  obtain ⟨er, her⟩ : ∃ er, sizeE (rowsXs rs) = er := ⟨_, rfl⟩
  obtain ⟨nr, hnr⟩ : ∃ nr, sizeR (rowsXs rs) = nr := ⟨_, rfl⟩
  obtain ⟨inner, hnc⟩ : ∃ nc, sizeC (rowsXs rs) = nc := ⟨_, rfl⟩
  obtain ⟨er2, her2⟩ : ∃ er, sizeE (rowsXs rt) = er := ⟨_, rfl⟩
  obtain ⟨height, hnr2⟩ : ∃ nr, sizeR (rowsXs rt) = nr := ⟨_, rfl⟩
  obtain ⟨cols, hnc2⟩ : ∃ nc, sizeC (rowsXs rt) = nc := ⟨_, rfl⟩
  obtain ⟨T, hT⟩ : ∃ T, mulV (rowsXs rs) (rowsXs rt) = T := ⟨_, rfl⟩
  obtain ⟨E, hE⟩ : ∃ E, mulE (rowsXs rs) (rowsXs rt) = E := ⟨_, rfl⟩
  rw [hnc] at hca
  rw [hnc2] at hcb
  have HS := Lib.hid (And.intro hnr (And.intro hnc her))
  have HS' := Lib.hid (And.intro hnr2 (And.intro hnc2 her2))
  have HLR : Hid ((rowsXs rs).length = n ∧ (rowsXs rt).length = m) := ⟨by rw [rowsXs_len, h.1], by rw [rowsXs_len, h'.1]⟩
  rw [hT, hE]
  have HT := Lib.hid (And.intro hT hE)
  clear h h' hF hG hnr hnc her hnr2 hnc2 her2 hT hE
  by_cases hr : mulR (rowsXs rs) (rowsXs rt)
  · have hf := hr
    obtain ⟨f1, f2, f3⟩ := hf
    have E1 : er = 0 := by rw [← HS.out.2.2, sizeE, if_pos f1]
    have E2 : er2 = 0 := by rw [← HS'.out.2.2, sizeE, if_pos f2]
    have E3 : nr = n := by rw [← HS.out.1, sizeR, if_pos f1, HLR.out.1]
    have E4 : height = m := by rw [← HS'.out.1, sizeR, if_pos f2, HLR.out.2]
    have E5 : inner = m := by rw [← HS.out.2.1, f3, HS'.out.1, E4]
    subst E1 E2
    obtain rfl : n = nr := E3.symm
    obtain rfl : m = height := E4.symm
    obtain rfl : inner = m := E5
    have HRA : Hid (∀ (j : Nat) (r : RowV), rs[j]? = some r → r.n = inner) := fun j r hj => by rw [fits_len f1 H.out hj, ← HS.out.2.1, sizeC, if_pos f1]
    have HRB : Hid (∀ (j : Nat) (r : RowV), rt[j]? = some r → r.n = cols) := fun j r hj => by rw [fits_len f2 H'.out hj, ← HS'.out.2.1, sizeC, if_pos f2]
    have HTE : Hid (T = prodN (rowsXs rs) (rowsXs rt) inner cols n ∧ E = 0) := ⟨by rw [← HT.out.1, mulV, if_pos hr, HS.out.2.1, HS'.out.2.1, HLR.out.1], by rw [← HT.out.2, mulE, if_pos hr]⟩
    have mk := fun w => run_make_bytes (P := Try.prog) Try.underlying26 info5 cols (by omega) w
    clear hr f1 f2 f3
    go_enter Try.func18, Try.ntmps18
    go_wp2_with fail
    refine (rsize_any n c A F rs _ H.out (by omega)).mono ?_
    rw [HS.out.1, HS.out.2.1, HS.out.2.2]
    rintro e w1 ⟨rfl, q1, rfl⟩
    have K1 := Lib.hid ((Keep.refl w).drewN q1)
    generalize w.drewN q1 = w1 at *
    go_wp2_with fail
    refine (rsize_any inner cb B G rt _ (H'.out.turned (Turned.of_keep (F := fun _ => False) K1.out) fun _ _ e => e) (by omega)).mono ?_
    rw [HS'.out.1, HS'.out.2.1, HS'.out.2.2]
    rintro e w2 ⟨rfl, q2, rfl⟩
    have K2 := Lib.hid (K1.out.drewN q2)
    generalize w1.drewN q2 = w2 at *
    go_wp2_with fail
    go_loopw [12, 13] (fun mm ii wr => ∃ (i : Nat) (A7 : Option Addr) (c7 : Nat) (rs7 : List RowV), i ≤ n ∧ ii = .int .i64 i ∧ mm = .slice A7 i c7 ∧ Laying w wr A7 i c7 rs7 ∧ rowsXs rs7 = prodN (rowsXs rs) (rowsXs rt) inner cols i) (fun _ ii _ => n - (intOf ii).toNat)
    case atStart => exact ⟨0, none, 0, [], by omega, rfl, rfl, (Laying.nothing w).later K2.out, rfl⟩
    case round =>
      obtain ⟨i, A7, c7, rs7, hi, rfl, rfl, hl, hx⟩ := hrel
      have HL := Lib.hid hl
      have HX := Lib.hid hx
      clear hl hx
      by_cases hlt : i < n
      · have e1 : (0 : Int) ≤ (i : Int) := Int.natCast_nonneg _
        have e2 : (i : Int) < (n : Int) := by omega
        obtain ⟨ba, oa, ra0, rfl, hba, hra, hca1, hria⟩ := (H.out.turned (Turned.of_keep (F := fun _ => False) HL.out.2.2) fun _ _ e => e).at_ hlt
        have HRA0 := Lib.hid (And.intro hra (And.intro (HRA.out i ra0 hra) (And.intro hca1 (And.intro hria (HF.out ba hba)))))
        have o0 := Own.made wr 5 cols (by omega)
        rw [partN_start ra0.xs (rowsXs rt) inner cols] at o0
        have O0 := Lib.hid o0
        have K0 := Lib.hid ((Keep.refl wr).alloc (madeCells #[.int .u8 0] cols) 5)
        clear hra hca1 hria hba o0
        generalize madeCells #[.int .u8 0] cols = MC at *
        obtain ⟨g, hg⟩ : ∃ g, wr.heap.size = g := ⟨_, rfl⟩
        obtain ⟨wO, hwO⟩ : ∃ wO, wO = wr := ⟨_, rfl⟩
        have HLO : Hid (Laying w wO A7 i c7 rs7) := by rw [hwO]; exact HL.out
        have KO : Hid (Keep wO (wr.alloc (.cells MC 5))) := by rw [hwO]; exact K0.out
        have HGO : Hid (wO.heap.size = g) := by rw [hwO]; exact hg
        have HRO : Hid (wO.cell? ⟨ba, oa + i, none⟩ = some (.slice ra0.A inner ra0.c) ∧ LiesIn wO F ra0 ∧ ba < w.heap.size ∧ rs[i]? = some ra0 ∧ ra0.n = inner) := by
          rw [hwO]
          have z := HRA0.out
          exact ⟨by rw [← z.2.1]; exact z.2.2.1, z.2.2.2.1, z.2.2.2.2, z.1, z.2.1⟩
        have OO : Hid (Own (wr.alloc (.cells MC 5)) g 5 (some ⟨g, 0, none⟩) cols cols (partN ra0.xs (rowsXs rt) inner cols 0 0)) := by show Own _ _ _ _ _ _ _; rw [← hg]; exact O0.out
        clear HL O0 K0 HRA0 hwO
        go_wp2_with fail
        try rw [hg]
        clear hg
        go_loopw [15] (fun kv wz => ∃ kk : Nat, kk ≤ cols ∧ kv = .int .i64 kk ∧ Own wz g 5 (some ⟨g, 0, none⟩) cols cols (partN ra0.xs (rowsXs rt) inner cols kk 0) ∧ Keep wO wz) (fun kv _ => cols - (intOf kv).toNat)
        case atStart => exact ⟨0, by omega, rfl, OO.out, KO.out⟩
        case round =>
          clear OO KO
          obtain ⟨kk, hk, rfl, ho, hkp⟩ := hrel
          have HO := Lib.hid ho
          have HK := Lib.hid hkp
          clear ho hkp
          by_cases hltk : kk < cols
          · have e3 : (0 : Int) ≤ (kk : Int) := Int.natCast_nonneg _
            have e4 : (kk : Int) < (cols : Int) := by omega
            go_wp2_with fail
            go_loopw [16] (fun nv wz => ∃ nn : Nat, nn ≤ inner ∧ nv = .int .i64 nn ∧ Own wz g 5 (some ⟨g, 0, none⟩) cols cols (partN ra0.xs (rowsXs rt) inner cols kk nn) ∧ Keep wO wz) (fun nv _ => inner - (intOf nv).toNat)
            case atStart => exact ⟨0, by omega, rfl, HO.out, HK.out⟩
            case round =>
              clear HO HK
              obtain ⟨nn, hnn, rfl, ho, hkp⟩ := hrel
              by_cases hltn : nn < inner
              · have e5 : (0 : Int) ≤ (nn : Int) := Int.natCast_nonneg _
                have e6 : (nn : Int) < (inner : Int) := by omega
                have hkw : Keep w wr := HLO.out.2.2.trans hkp
                obtain ⟨bb, ob, rb0, rfl, hbb, hrb, hcb2, hrib⟩ := (H'.out.turned (Turned.of_keep (F := fun _ => False) hkw) fun _ _ e => e).at_ hltn
                have hrbn := HRB.out nn rb0 hrb
                have hlo : w.heap.size ≤ g := by rw [← HGO.out]; exact HLO.out.2.2.size
                obtain ⟨b1, o1, hA1, hb1, hcs1⟩ := (HRO.out.2.1.turned (Turned.of_keep (F := fun _ => False) hkp) fun _ _ e => e).2.2.2 (by rw [HRO.out.2.2.2.2]; omega)
                obtain ⟨b2, o2, hA2, hb2, hcs2⟩ := hrib.2.2.2 (by omega)
                have c1 : wr.cell? ⟨ba, oa + i, none⟩ = some (.slice (some ⟨b1, o1, none⟩) inner ra0.c) := by rw [← hA1]; exact (Below.cell (p := ⟨ba, oa + i, none⟩) hkp (Nat.lt_of_lt_of_le HRO.out.2.2.1 HLO.out.2.2.size)).trans HRO.out.1
                have c2 := hcs1 nn (by rw [HRO.out.2.2.2.2]; omega)
                have c3 : wr.cell? ⟨bb, ob + nn, none⟩ = some (.slice (some ⟨b2, o2, none⟩) cols rb0.c) := by rw [hcb2, hA2, hrbn]
                have c4 := hcs2 kk (by omega)
                have c5 := ho.frozen kk
                have c6 := ho.cell hltk
                rw [partN_at _ _ _ _ _ _ hltk] at c6
                have hx : ra0.xs.getD nn 0 < 256 := HRO.out.2.1.2.1.getD nn
                have hy : rb0.xs.getD kk 0 < 256 := hrib.2.1.getD kk
                have hs : dotN ra0.xs (rowsXs rt) kk nn < 256 := by rw [← partN_at ra0.xs (rowsXs rt) inner cols kk nn hltk]; exact ho.2.getD kk
                have hd : dotN ra0.xs (rowsXs rt) kk (nn + 1) = dotN ra0.xs (rowsXs rt) kk nn ^^^ mulN (ra0.xs.getD nn 0) (rb0.xs.getD kk 0) := by
                  rw [dotN, sumX, rowsXs_at hrb]; rfl
                have hst := partN_step ra0.xs (rowsXs rt) inner cols kk nn
                obtain ⟨q, hq⟩ : ∃ q, mulN (ra0.xs.getD nn 0) (rb0.xs.getD kk 0) = q := ⟨_, rfl⟩
                have hq2 : q < 256 := by rw [← hq]; exact mulN_lt _ hx
                obtain ⟨s, hss⟩ : ∃ s, dotN ra0.xs (rowsXs rt) kk nn = s := ⟨_, rfl⟩
                rw [hss] at c6 hs hd
                rw [hq] at hd
                have hxor := u8_xor_nat s q hs hq2
                have hv : s ^^^ q < 256 := xor_lt hs hq2
                have HQ := Lib.hid hq
                have hn1 : ba < g ∧ b1 < g ∧ bb < g ∧ b2 < g := ⟨Nat.lt_of_lt_of_le HRO.out.2.2.1 hlo, Nat.lt_of_lt_of_le (HF.out b1 hb1) hlo, Nat.lt_of_lt_of_le (HG.out bb hbb) hlo, Nat.lt_of_lt_of_le (HG.out b2 hb2) hlo⟩
                have HN : Hid ((⟨g, kk, none⟩ : Addr).block ≠ (⟨ba, oa + i, none⟩ : Addr).block ∧ (⟨g, kk, none⟩ : Addr).block ≠ (⟨b1, o1 + nn, none⟩ : Addr).block ∧ (⟨g, kk, none⟩ : Addr).block ≠ (⟨bb, ob + nn, none⟩ : Addr).block ∧ (⟨g, kk, none⟩ : Addr).block ≠ (⟨b2, o2 + kk, none⟩ : Addr).block) := ⟨Nat.ne_of_gt hn1.1, Nat.ne_of_gt hn1.2.1, Nat.ne_of_gt hn1.2.2.1, Nat.ne_of_gt hn1.2.2.2⟩
                have o2' := (show Own wr.drew g 5 (some ⟨g, 0, none⟩) cols cols _ from ho).stored (i := kk) (v := s ^^^ q) hv
                rw [← hd, hst] at o2'
                rw [hd] at o2'
                have HS2 := Lib.hid o2'
                have HK2 := Lib.hid ((hkp.drew).setCell (a := ⟨g, kk, none⟩) (by rw [HGO.out]; exact Nat.le_refl _) (.int .u8 ((s ^^^ q : Nat) : Int)))
                generalize ra0.xs.getD nn 0 = x at *
                generalize rb0.xs.getD kk 0 = y at *
                obtain ⟨v, hvv⟩ : ∃ v, s ^^^ q = v := ⟨_, rfl⟩
                rw [hvv] at hxor HS2 HK2
                clear ho hkp hkw hrb hcb2 hrib hrbn hlo hA1 hA2 hcs1 hcs2 hb1 hb2 hbb hst hd hss hq hv hvv hn1 o2'
                go_wp2_with fail
                refine wp_region_noPanic ?_
                refine wp_region_held_drew (S := fun wy => wy.cell? ⟨ba, oa + i, none⟩ = some (.slice (some ⟨b1, o1, none⟩) inner ra0.c) ∧ wy.cell? ⟨b1, o1 + nn, none⟩ = some (.int .u8 (x : Int)) ∧ wy.cell? ⟨bb, ob + nn, none⟩ = some (.slice (some ⟨b2, o2, none⟩) cols rb0.c) ∧ wy.cell? ⟨b2, o2 + kk, none⟩ = some (.int .u8 (y : Int)) ∧ wy.frozen? ⟨g, kk, none⟩ = false) (by kernel_rfl) ⟨c1, c2, c3, c4, c5⟩ (fun hHeld => ?_)
                refine wpAnyH_take (i := 0) (v := ?_) rfl (by kernel_rfl) (by kernel_rfl) (by kernel_rfl) (fun _ _ _ h => h) (Or.inl ⟨by rfl, ?_⟩) hHeld ?_
                rotate_left
                · intro wq hSw
                  go_simp
                  all_goals with_reducible rfl
                try simp only [Act.put, List.getElem_toArray, List.getElem_cons_succ, List.getElem_cons_zero, List.setIfInBounds_toArray, List.set_cons_zero, List.set_cons_succ]
                refine wpAnyH_take (i := 1) (v := ?_) rfl (by kernel_rfl) (by kernel_rfl) (by kernel_rfl) (fun _ _ _ h => h) (Or.inl ⟨by rfl, ?_⟩) hHeld ?_
                rotate_left
                · intro wq hSw
                  go_simp
                  all_goals with_reducible rfl
                try simp only [Act.put, List.getElem_toArray, List.getElem_cons_succ, List.getElem_cons_zero, List.setIfInBounds_toArray, List.set_cons_zero, List.set_cons_succ]
                refine wpAnyH_take (i := 2) (v := ?_) rfl (by kernel_rfl) (by kernel_rfl) (by kernel_rfl) (fun _ _ _ h => h) (Or.inl ⟨by rfl, ?_⟩) hHeld ?_
                rotate_left
                · intro wq hSw
                  go_simp
                  all_goals with_reducible rfl
                try simp only [Act.put, List.getElem_toArray, List.getElem_cons_succ, List.getElem_cons_zero, List.setIfInBounds_toArray, List.set_cons_zero, List.set_cons_succ]
                refine wpAnyH_take (i := 3) (v := ?_) rfl (by kernel_rfl) (by kernel_rfl) (by kernel_rfl) (fun _ _ _ h => h) (Or.inl ⟨by rfl, ?_⟩) hHeld ?_
                rotate_left
                · intro wq hSw
                  go_simp
                  all_goals with_reducible rfl
                try simp only [Act.put, List.getElem_toArray, List.getElem_cons_succ, List.getElem_cons_zero, List.setIfInBounds_toArray, List.set_cons_zero, List.set_cons_succ]
                refine wpAnyH_take (i := 4) (v := ?_) rfl (by kernel_rfl) (by kernel_rfl) (by kernel_rfl) (fun _ _ _ h => h) (Or.inl ⟨by rfl, ?_⟩) hHeld ?_
                rotate_left
                · intro wq hSw
                  go_simp
                  all_goals with_reducible rfl
                try simp only [Act.put, List.getElem_toArray, List.getElem_cons_succ, List.getElem_cons_zero, List.setIfInBounds_toArray, List.set_cons_zero, List.set_cons_succ]
                refine wpAnyH_take (i := 6) (v := ?_) rfl (by kernel_rfl) (by kernel_rfl) (by kernel_rfl) (fun _ _ _ h => h) (Or.inl ⟨by rfl, ?_⟩) hHeld ?_
                rotate_left
                · intro wq hSw
                  go_simp
                  all_goals with_reducible rfl
                try simp only [Act.put, List.getElem_toArray, List.getElem_cons_succ, List.getElem_cons_zero, List.setIfInBounds_toArray, List.set_cons_zero, List.set_cons_succ]
                refine wpAnyH_take (i := 7) (v := ?_) rfl (by kernel_rfl) (by kernel_rfl) (by kernel_rfl) (fun _ _ _ h => h) (Or.inl ⟨by rfl, ?_⟩) hHeld ?_
                rotate_left
                · intro wq hSw
                  go_simp
                  all_goals with_reducible rfl
                try simp only [Act.put, List.getElem_toArray, List.getElem_cons_succ, List.getElem_cons_zero, List.setIfInBounds_toArray, List.set_cons_zero, List.set_cons_succ]
                refine wpAnyH_take (i := 8) (v := ?_) rfl (by kernel_rfl) (by kernel_rfl) (by kernel_rfl) (fun _ _ _ h => h) (Or.inl ⟨by rfl, ?_⟩) hHeld ?_
                rotate_left
                · intro wq hSw
                  go_simp
                  all_goals with_reducible rfl
                try simp only [Act.put, List.getElem_toArray, List.getElem_cons_succ, List.getElem_cons_zero, List.setIfInBounds_toArray, List.set_cons_zero, List.set_cons_succ]
                refine wpAnyH_take (i := 9) (v := ?_) rfl (by kernel_rfl) (by kernel_rfl) (by kernel_rfl) (fun _ _ _ h => h) (Or.inl ⟨by rfl, ?_⟩) hHeld ?_
                rotate_left
                · intro wq hSw
                  have q0 := hSw.1
                  go_simp
                  all_goals with_reducible rfl
                try simp only [Act.put, List.getElem_toArray, List.getElem_cons_succ, List.getElem_cons_zero, List.setIfInBounds_toArray, List.set_cons_zero, List.set_cons_succ]
                refine wpAnyH_take (i := 10) (v := ?_) rfl (by kernel_rfl) (by kernel_rfl) (by kernel_rfl) (fun _ _ _ h => h) (Or.inl ⟨by rfl, ?_⟩) hHeld ?_
                rotate_left
                · intro wq hSw
                  go_simp
                  all_goals with_reducible rfl
                try simp only [Act.put, List.getElem_toArray, List.getElem_cons_succ, List.getElem_cons_zero, List.setIfInBounds_toArray, List.set_cons_zero, List.set_cons_succ]
                refine wpAnyH_take (i := 11) (v := ?_) rfl (by kernel_rfl) (by kernel_rfl) (by kernel_rfl) (fun _ _ _ h => h) (Or.inl ⟨by rfl, ?_⟩) hHeld ?_
                rotate_left
                · intro wq hSw
                  go_simp
                  all_goals with_reducible rfl
                try simp only [Act.put, List.getElem_toArray, List.getElem_cons_succ, List.getElem_cons_zero, List.setIfInBounds_toArray, List.set_cons_zero, List.set_cons_succ]
                refine wpAnyH_take (i := 12) (v := ?_) rfl (by kernel_rfl) (by kernel_rfl) (by kernel_rfl) (fun _ _ _ h => h) (Or.inl ⟨by rfl, ?_⟩) hHeld ?_
                rotate_left
                · intro wq hSw
                  have q0 := hSw.2.1
                  go_simp
                  all_goals with_reducible rfl
                try simp only [Act.put, List.getElem_toArray, List.getElem_cons_succ, List.getElem_cons_zero, List.setIfInBounds_toArray, List.set_cons_zero, List.set_cons_succ]
                refine wpAnyH_take (i := 13) (v := ?_) rfl (by kernel_rfl) (by kernel_rfl) (by kernel_rfl) (fun _ _ _ h => h) (Or.inl ⟨by rfl, ?_⟩) hHeld ?_
                rotate_left
                · intro wq hSw
                  go_simp
                  all_goals with_reducible rfl
                try simp only [Act.put, List.getElem_toArray, List.getElem_cons_succ, List.getElem_cons_zero, List.setIfInBounds_toArray, List.set_cons_zero, List.set_cons_succ]
                refine wpAnyH_take (i := 14) (v := ?_) rfl (by kernel_rfl) (by kernel_rfl) (by kernel_rfl) (fun _ _ _ h => h) (Or.inl ⟨by rfl, ?_⟩) hHeld ?_
                rotate_left
                · intro wq hSw
                  go_simp
                  all_goals with_reducible rfl
                try simp only [Act.put, List.getElem_toArray, List.getElem_cons_succ, List.getElem_cons_zero, List.setIfInBounds_toArray, List.set_cons_zero, List.set_cons_succ]
                refine wpAnyH_take (i := 15) (v := ?_) rfl (by kernel_rfl) (by kernel_rfl) (by kernel_rfl) (fun _ _ _ h => h) (Or.inl ⟨by rfl, ?_⟩) hHeld ?_
                rotate_left
                · intro wq hSw
                  go_simp
                  all_goals with_reducible rfl
                try simp only [Act.put, List.getElem_toArray, List.getElem_cons_succ, List.getElem_cons_zero, List.setIfInBounds_toArray, List.set_cons_zero, List.set_cons_succ]
                refine wpAnyH_take (i := 16) (v := ?_) rfl (by kernel_rfl) (by kernel_rfl) (by kernel_rfl) (fun _ _ _ h => h) (Or.inl ⟨by rfl, ?_⟩) hHeld ?_
                rotate_left
                · intro wq hSw
                  have q0 := hSw.2.2.1
                  go_simp
                  all_goals with_reducible rfl
                try simp only [Act.put, List.getElem_toArray, List.getElem_cons_succ, List.getElem_cons_zero, List.setIfInBounds_toArray, List.set_cons_zero, List.set_cons_succ]
                refine wpAnyH_take (i := 17) (v := ?_) rfl (by kernel_rfl) (by kernel_rfl) (by kernel_rfl) (fun _ _ _ h => h) (Or.inl ⟨by rfl, ?_⟩) hHeld ?_
                rotate_left
                · intro wq hSw
                  go_simp
                  all_goals with_reducible rfl
                try simp only [Act.put, List.getElem_toArray, List.getElem_cons_succ, List.getElem_cons_zero, List.setIfInBounds_toArray, List.set_cons_zero, List.set_cons_succ]
                refine wpAnyH_take (i := 18) (v := ?_) rfl (by kernel_rfl) (by kernel_rfl) (by kernel_rfl) (fun _ _ _ h => h) (Or.inl ⟨by rfl, ?_⟩) hHeld ?_
                rotate_left
                · intro wq hSw
                  go_simp
                  all_goals with_reducible rfl
                try simp only [Act.put, List.getElem_toArray, List.getElem_cons_succ, List.getElem_cons_zero, List.setIfInBounds_toArray, List.set_cons_zero, List.set_cons_succ]
                refine wpAnyH_take (i := 19) (v := ?_) rfl (by kernel_rfl) (by kernel_rfl) (by kernel_rfl) (fun _ _ _ h => h) (Or.inl ⟨by rfl, ?_⟩) hHeld ?_
                rotate_left
                · intro wq hSw
                  have q0 := hSw.2.2.2.1
                  go_simp
                  all_goals with_reducible rfl
                try simp only [Act.put, List.getElem_toArray, List.getElem_cons_succ, List.getElem_cons_zero, List.setIfInBounds_toArray, List.set_cons_zero, List.set_cons_succ]
                refine wpAnyH_ready (rs := [5, 20]) (by kernel_rfl) (by simp) ?_
                refine AllReadyH.cons rfl (fun K hK => ?_) (AllReadyH.cons rfl (fun K hK => ?_) AllReadyH.nil)
                · go_simp
                  refine hK.out _ _ ⟨c1, c2, c3, c4, c5⟩ (fun hHeld => ?_)
                  clear hK K
                  try simp only [Act.put, List.getElem_toArray, List.getElem_cons_succ, List.getElem_cons_zero, List.setIfInBounds_toArray, List.set_cons_zero, List.set_cons_succ]
                  refine wpAnyH_ready (rs := [20]) (by kernel_rfl) (by simp) ?_
                  refine AllReadyH.cons rfl (fun K hK => ?_) AllReadyH.nil
                  go_simp
                  refine (rmul_eq x y q hx hy HQ.out _).mono ?_
                  rintro e w' ⟨rfl, rfl⟩
                  refine hK.out _ _ ⟨c1, c2, c3, c4, c5⟩ (fun hHeld => ?_)
                  clear hK K
                  try simp only [Act.put, List.getElem_toArray, List.getElem_cons_succ, List.getElem_cons_zero, List.setIfInBounds_toArray, List.set_cons_zero, List.set_cons_succ]
                  refine wpAnyH_take (i := 21) (v := ?_) rfl (by kernel_rfl) (by kernel_rfl) (by kernel_rfl) (fun _ _ _ h => h) (Or.inl ⟨by rfl, ?_⟩) hHeld ?_
                  rotate_left
                  · intro wq hSw
                    go_simp
                    all_goals with_reducible rfl
                  try simp only [Act.put, List.getElem_toArray, List.getElem_cons_succ, List.getElem_cons_zero, List.setIfInBounds_toArray, List.set_cons_zero, List.set_cons_succ]
                  refine wpAnyH_take (i := 22) (v := ?_) rfl (by kernel_rfl) (by kernel_rfl) (by kernel_rfl) (fun _ _ _ h => h) (Or.inl ⟨by rfl, ?_⟩) hHeld ?_
                  rotate_left
                  · intro wq hSw
                    go_simp
                    all_goals with_reducible rfl
                  try simp only [Act.put, List.getElem_toArray, List.getElem_cons_succ, List.getElem_cons_zero, List.setIfInBounds_toArray, List.set_cons_zero, List.set_cons_succ]
                  refine wpAnyH_ready (rs := [23]) (by kernel_rfl) (by simp) ?_
                  refine AllReadyH.cons rfl (fun K hK => ?_) AllReadyH.nil
                  go_simp
                  refine hK.out _ _ ⟨(World.cell?_setCell_far _ _ _ _ HN.out.1).trans c1, (World.cell?_setCell_far _ _ _ _ HN.out.2.1).trans c2, (World.cell?_setCell_far _ _ _ _ HN.out.2.2.1).trans c3, (World.cell?_setCell_far _ _ _ _ HN.out.2.2.2).trans c4, (World.frozen?_setCell _ _ _ _).trans c5⟩ (fun hHeld => ?_)
                  clear hK K
                  try simp only [Act.put, List.getElem_toArray, List.getElem_cons_succ, List.getElem_cons_zero, List.setIfInBounds_toArray, List.set_cons_zero, List.set_cons_succ]
                  refine wpAnyH_done (by kernel_rfl) ?_ _
                  refine NoPanic.normal ?_
                  clear hHeld
                  go_wp2_with fail
                  go_roundw
                  case rel => exact ⟨nn + 1, by omega, by go_num, HS2.out, HK2.out⟩
                  case measure => simp [intOf]; omega
                · go_simp
                  refine (rmul_eq x y q hx hy HQ.out _).mono ?_
                  rintro e w' ⟨rfl, rfl⟩
                  refine hK.out _ _ ⟨c1, c2, c3, c4, c5⟩ (fun hHeld => ?_)
                  clear hK K
                  try simp only [Act.put, List.getElem_toArray, List.getElem_cons_succ, List.getElem_cons_zero, List.setIfInBounds_toArray, List.set_cons_zero, List.set_cons_succ]
                  refine wpAnyH_ready (rs := [5]) (by kernel_rfl) (by simp) ?_
                  refine AllReadyH.cons rfl (fun K hK => ?_) AllReadyH.nil
                  go_simp
                  refine hK.out _ _ ⟨c1, c2, c3, c4, c5⟩ (fun hHeld => ?_)
                  clear hK K
                  try simp only [Act.put, List.getElem_toArray, List.getElem_cons_succ, List.getElem_cons_zero, List.setIfInBounds_toArray, List.set_cons_zero, List.set_cons_succ]
                  refine wpAnyH_take (i := 21) (v := ?_) rfl (by kernel_rfl) (by kernel_rfl) (by kernel_rfl) (fun _ _ _ h => h) (Or.inl ⟨by rfl, ?_⟩) hHeld ?_
                  rotate_left
                  · intro wq hSw
                    go_simp
                    all_goals with_reducible rfl
                  try simp only [Act.put, List.getElem_toArray, List.getElem_cons_succ, List.getElem_cons_zero, List.setIfInBounds_toArray, List.set_cons_zero, List.set_cons_succ]
                  refine wpAnyH_take (i := 22) (v := ?_) rfl (by kernel_rfl) (by kernel_rfl) (by kernel_rfl) (fun _ _ _ h => h) (Or.inl ⟨by rfl, ?_⟩) hHeld ?_
                  rotate_left
                  · intro wq hSw
                    go_simp
                    all_goals with_reducible rfl
                  try simp only [Act.put, List.getElem_toArray, List.getElem_cons_succ, List.getElem_cons_zero, List.setIfInBounds_toArray, List.set_cons_zero, List.set_cons_succ]
                  refine wpAnyH_ready (rs := [23]) (by kernel_rfl) (by simp) ?_
                  refine AllReadyH.cons rfl (fun K hK => ?_) AllReadyH.nil
                  go_simp
                  refine hK.out _ _ ⟨(World.cell?_setCell_far _ _ _ _ HN.out.1).trans c1, (World.cell?_setCell_far _ _ _ _ HN.out.2.1).trans c2, (World.cell?_setCell_far _ _ _ _ HN.out.2.2.1).trans c3, (World.cell?_setCell_far _ _ _ _ HN.out.2.2.2).trans c4, (World.frozen?_setCell _ _ _ _).trans c5⟩ (fun hHeld => ?_)
                  clear hK K
                  try simp only [Act.put, List.getElem_toArray, List.getElem_cons_succ, List.getElem_cons_zero, List.setIfInBounds_toArray, List.set_cons_zero, List.set_cons_succ]
                  refine wpAnyH_done (by kernel_rfl) ?_ _
                  refine NoPanic.normal ?_
                  clear hHeld
                  go_wp2_with fail
                  go_roundw
                  case rel => exact ⟨nn + 1, by omega, by go_num, HS2.out, HK2.out⟩
                  case measure => simp [intOf]; omega
              · obtain rfl : nn = inner := by omega
                have HO2 := Lib.hid (partN_next ra0.xs (rowsXs rt) nn cols kk ▸ ho)
                have HK2 := Lib.hid hkp
                clear ho hkp
                go_wp2_with fail
                go_roundw
                case rel => exact ⟨kk + 1, by omega, by go_num, HO2.out, HK2.out⟩
                case measure => simp [intOf]; omega
          · obtain rfl : kk = cols := by omega
            have HO2 := Lib.hid (partN_done ra0.xs (rowsXs rt) inner kk ▸ HO.out)
            have HLz := Lib.hid (HLO.out.later HK.out)
            have HOz := Lib.hid (HO2.out.lower (base' := w.heap.size) (by rw [← HGO.out]; exact HLO.out.2.2.size))
            clear HO
            go_wp2_with (at_builtin; refine wpList_append_row rfl _ _ 22 rfl ⟨some ⟨g, 0, none⟩, kk, kk, rowN ra0.xs (rowsXs rt) inner kk⟩ Try.underlying22 infoRow rfl (HLz.out.1.alloc _) rfl (by rw [World.cell?_alloc_new]; rfl) (by omega) (by have := HLz.out.2.2.size; simp; omega) ?_)
            intro A9 c9 w9 h9 hgr9 hb9
            have HL9 := Lib.hid (HLz.out.more (row_apart HLz.out HOz.out) h9 hgr9 (by simpa using hb9))
            clear h9 hgr9 hb9
            go_wp2_with fail
            go_roundw
            case rel => exact ⟨i + 1, A9, c9, _, by omega, by go_num, rfl, HL9.out, by rw [rowsXs, List.map_append, ← rowsXs, HX.out, prodN_succ (rowsXs_get HRO.out.2.2.2.1)]; rfl⟩
            case measure => simp [intOf]; omega
      · obtain rfl : i = n := by omega
        go_wp2_with fail
        go_ret2
        rw [HTE.out.1, HTE.out.2, ← HX.out]
        exact HL.out.done 0
  · have HTE : Hid (T = [] ∧ E = 21) := ⟨by rw [← HT.out.1, mulV, if_neg hr], by rw [← HT.out.2, mulE, if_neg hr]⟩
    have hcase : er ≠ 0 ∨ (er = 0 ∧ er2 ≠ 0) ∨ (er = 0 ∧ er2 = 0 ∧ inner ≠ height) := by
      by_cases f1 : fits (rowsXs rs)
      · have g1 : er = 0 := by rw [← HS.out.2.2, sizeE, if_pos f1]
        by_cases f2 : fits (rowsXs rt)
        · have g2 : er2 = 0 := by rw [← HS'.out.2.2, sizeE, if_pos f2]
          exact Or.inr (Or.inr ⟨g1, g2, fun e => hr ⟨f1, f2, by rw [HS.out.2.1, HS'.out.1]; exact e⟩⟩)
        · exact Or.inr (Or.inl ⟨g1, by rw [← HS'.out.2.2, sizeE, if_neg f2]; decide⟩)
      · exact Or.inl (by rw [← HS.out.2.2, sizeE, if_neg f1]; decide)
    obtain ⟨t1, ht1⟩ : ∃ t : Bool, (er != 0) = t := ⟨_, rfl⟩
    obtain ⟨t2, ht2⟩ : ∃ t : Bool, (er2 != 0) = t := ⟨_, rfl⟩
    obtain ⟨t3, ht3⟩ : ∃ t : Bool, ((inner : Int) != (height : Int)) = t := ⟨_, rfl⟩
    have hor : t1 = true ∨ (t1 = false ∧ t2 = true) ∨ (t1 = false ∧ t2 = false ∧ t3 = true) := by
      rcases hcase with h | ⟨h, h2⟩ | ⟨h, h2, h3⟩
      · exact Or.inl (by rw [← ht1]; exact bne_iff_ne.2 h)
      · exact Or.inr (Or.inl ⟨by rw [← ht1, h]; rfl, by rw [← ht2]; exact bne_iff_ne.2 h2⟩)
      · exact Or.inr (Or.inr ⟨by rw [← ht1, h]; rfl, by rw [← ht2, h2]; rfl, by rw [← ht3]; exact bne_iff_ne.2 (by omega)⟩)
    clear hr hcase
    go_enter Try.func18, Try.ntmps18
    go_wp2_with fail
    refine (rsize_any n c A F rs _ H.out (by omega)).mono ?_
    rw [HS.out.1, HS.out.2.1, HS.out.2.2]
    rintro e w1 ⟨rfl, q1, rfl⟩
    have K1 := Lib.hid ((Keep.refl w).drewN q1)
    generalize w.drewN q1 = w1 at *
    go_wp2_with fail
    refine (rsize_any m cb B G rt _ (H'.out.turned (Turned.of_keep (F := fun _ => False) K1.out) fun _ _ e => e) (by omega)).mono ?_
    rw [HS'.out.1, HS'.out.2.1, HS'.out.2.2]
    rintro e w2 ⟨rfl, q2, rfl⟩
    have K2 := Lib.hid (K1.out.drewN q2)
    generalize w1.drewN q2 = w2 at *
    rcases hor with rfl | ⟨rfl, rfl⟩ | ⟨rfl, rfl, rfl⟩
    all_goals
      go_wp2_with fail
      go_ret2
      exact ⟨none, 0, 0, by rw [HTE.out.2]; rfl, [], RowsIn.nothing _ _ _, Nat.le_refl _, HTE.out.1.symm, K2.out⟩
end Go.Proofs.Ytcmjglmagkjdoaa
