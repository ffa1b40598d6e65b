/- The contract of the document's own inverse of a matrix. -/
import Derived.Test.YtcmjglmagkjdoaaRef
import Derived.Test.YtcmjglmagkjdoaaMatDefs
namespace Go.Proofs.Ytcmjglmagkjdoaa
open Go.RowKit Lin
set_option linter.unusedSimpArgs false
set_option linter.unusedVariables false
/-- A row cut at its head. -/
def cutR (s : Nat) (r : RowV) : RowV := ⟨dropA r.A r.c s, r.n - s, r.c - s, r.xs.drop s⟩
theorem LiesIn.cutR {w : World} {F : Nat → Prop} {r : RowV} (h : LiesIn w F r) (s : Nat) : LiesIn w F (cutR s r) := by
  refine ⟨by show (r.xs.drop s).length = r.n - s; rw [List.length_drop, h.1], fun x hx => h.2.1 x (List.mem_of_mem_drop hx), by have := h.2.2.1; show r.n - s ≤ r.c - s; omega, fun hp => ?_⟩
  have hp2 : 0 < r.n - s := hp
  obtain ⟨b, off, e, hb, hc⟩ := h.2.2.2 (by omega)
  refine ⟨b, off + s, by show dropA r.A r.c s = _; rw [e]; exact dropA_some b off r.c s (by have := h.2.2.1; omega), hb, fun i hi => ?_⟩
  have hi2 : i < r.n - s := hi
  show w.cell? ⟨b, off + s + i, none⟩ = some (.int .u8 (((r.xs.drop s).getD i 0 : Nat) : Int))
  rw [Nat.add_assoc, hc (s + i) (by omega)]
  simp [List.getD_eq_getElem?_getD, List.getElem?_drop]
theorem rowsXs_cutR (s : Nat) (rs : List RowV) : rowsXs (rs.map (cutR s)) = (rowsXs rs).map (List.drop s) := by simp [rowsXs, cutR, Function.comp_def]
theorem rowsXs_get' {rs : List RowV} {k : Nat} {r : RowV} (h : rs[k]? = some r) : (rowsXs rs)[k]? = some r.xs := by simp [rowsXs, h]
set_option maxRecDepth 100000 in
set_option maxHeartbeats 4000000 in
theorem rinverse_in (n c : Nat) (A : Option Addr) (F : Nat → Prop) (rs : List RowV) (w : World) (h : RowsIn w F A n rs) (hF : ∀ b, F b → b < w.heap.size) (hn : n ≤ 255) (hfit : fits (rowsXs rs)) (hsq : sizeC (rowsXs rs) = n) (hrank : n ≤ (reduceN (rowsXs rs)).length) :
    Calls Try.prog 22 #[.slice A n c] w (NewRows w ((reduceTo (n + n) (wideN (rowsXs rs) n) n).map (List.drop n)) 0) := by
  have hlr : (rowsXs rs).length = n := by rw [rowsXs_len, h.1]
  have hS : sizeR (rowsXs rs) = n ∧ sizeE (rowsXs rs) = 0 := ⟨by rw [sizeR, if_pos hfit, hlr], by rw [sizeE, if_pos hfit]⟩
  have hrn : ∀ r ∈ rs, r.n = n := fun r hr => (fits_rows hfit h r hr).trans hsq
  have hok : RowsOk n (rowsXs rs) := h.ok hrn
  have hfull := wide_full hok hlr
  have hwok := wideN_ok hok hlr
  obtain ⟨W, hW⟩ : ∃ W, wideN (rowsXs rs) n = W := ⟨_, rfl⟩
  have HWD := Lib.hid hW
  rw [hW] at hfull hwok ⊢
  have hWl : W.length = n := by rw [← hW, wideN_len]
  obtain ⟨rk, hrk⟩ : ∃ rk, (reduceN (rowsXs rs)).length = rk := ⟨_, rfl⟩
  rw [hrk] at hrank
  have HRK := Lib.hid hrk
  have H := Lib.hid h
  have HF := Lib.hid hF
  have HS := Lib.hid (And.intro hS.1 (And.intro hsq hS.2))
  have HRN := Lib.hid hrn
  have HWO := Lib.hid (And.intro hwok (And.intro hWl hfull))
  have b1 : ((n : Int) != (n : Int)) = false := by simp
  have b2 : ¬ (rk : Int) < (n : Int) := by omega
  clear h hF hfit hsq hrn hok hfull hwok hW hWl hrk hS hlr
  go_enter Try.func22, Try.ntmps22
  go_wp2_with fail
  refine (rsize_any n c A F rs _ H.out (by omega)).mono ?_
  rw [HS.out.1, HS.out.2.1, HS.out.2.2]
  rintro e w1 ⟨rfl, q1, rfl⟩
  have K1 := Lib.hid ((Keep.refl w).drewN q1)
  generalize w.drewN q1 = w1 at *
  go_wp2_with fail
  refine (rrank_any n c A F rs _ (H.out.turned (Turned.of_keep (F := fun _ => False) K1.out) fun _ _ e => e) (fun b hb => Nat.lt_of_lt_of_le (HF.out b hb) K1.out.size) (by omega) (by rw [HS.out.2.1]; omega)).mono ?_
  rw [HRK.out, HS.out.2.2]
  rintro e w2 ⟨rfl, k2⟩
  have K2 := Lib.hid (K1.out.trans k2)
  clear k2
  go_wp2_with fail
  refine (rident_in n hn _).mono ?_
  rintro e w3 ⟨A1, n1, c1, rfl, ro, hro, hc1, hxo, k3⟩
  obtain rfl : n = n1 := by rw [← hro.1, ← rowsXs_len, hxo]; simp [idN]
  have HRO := Lib.hid hro
  have HXO := Lib.hid hxo
  have K3 := Lib.hid (K2.out.trans k3)
  clear hro hxo k3
  go_wp2_with fail
  go_loopw [11, 12] (fun out i wr => ∃ (j : Nat) (A7 : Option Addr) (c7 : Nat) (rs7 : List RowV), j ≤ n ∧ i = .int .i64 j ∧ out = .slice A7 rs7.length c7 ∧ rs7.length ≤ c7 ∧ RowsIn wr (fun b => w.heap.size ≤ b ∧ b < wr.heap.size) A7 rs7.length rs7 ∧ rowsXs rs7 = reduceTo (n + n) W j ∧ Keep w wr ∧ Keep w3 wr) (fun _ i _ => n - (intOf i).toNat)
  case atStart => exact ⟨0, none, 0, [], by omega, rfl, rfl, Nat.le_refl _, RowsIn.nothing _ _ _, rfl, K3.out, Keep.refl _⟩
  case round =>
    obtain ⟨j, A7, c7, rs7, hj, rfl, rfl, hlc, hr7, hx7, hk7, hk3⟩ := hrel
    have HR7 := Lib.hid hr7
    have HK7 := Lib.hid hk7
    have HK3 := Lib.hid hk3
    by_cases hlt : j < n
    · have e1 : (0 : Int) ≤ (j : Int) := Int.natCast_nonneg _
      have e2 : (j : Int) < (n : Int) := by omega
      have hred := reduceTo_red HWO.out.1 j (by rw [HWO.out.2.1]; omega)
      have hlead := redL_leads hred.1
      have hlen := redL_length hred.1
      have hl7 : rs7.length ≤ 100000 := by
        have e : (rowsXs rs7).length = rs7.length := rowsXs_len _
        rw [hx7] at e; omega
      have HL7 : Hid (∀ r' ∈ rs7, r'.n = n + n ∧ 0 ≤ vLead (n + n) r'.xs) := fun r' hr' => by
        have hm : r'.xs ∈ reduceTo (n + n) W j := hx7 ▸ List.mem_map.2 ⟨r', hr', rfl⟩
        have := hlead _ hm
        exact ⟨by rw [← (HR7.out.2.1 r' hr').1]; exact this.1, this.2⟩
      obtain ⟨b, off, r, rfl, hb, hr, hcell, hri⟩ := (H.out.turned (Turned.of_keep (F := fun _ => False) hk7) fun _ _ e => e).at_ hlt
      obtain ⟨b', off', ru, rfl, hb', hru, hcell', hriu⟩ := (HRO.out.turned (Turned.of_keep (F := fun _ => False) hk3) fun _ _ e => e).at_ hlt
      have hrn := HRN.out r (List.mem_of_getElem? hr)
      have hux : ru.xs = vUnit n j := by
        have e := rowsXs_get' hru
        rw [HXO.out, idN_get n n j hlt] at e
        exact (Option.some.inj e).symm
      have hun : ru.n = n := by rw [← hriu.1, hux, vUnit, tab_length]
      have HB1 : Hid (Bytes wr wr.heap.size r.A n r.xs) := by have := hri.bytes (B := wr.heap.size) fun b hb => Nat.lt_of_lt_of_le (HF.out b hb) hk7.size; rw [hrn] at this; exact this
      have HB2 : Hid (Bytes wr wr.heap.size ru.A n (vUnit n j)) := by have := hriu.bytes (B := wr.heap.size) fun b hb => Nat.lt_of_lt_of_le hb.2 hk3.size; rw [hun, hux] at this; exact this
      have HST : Hid (reduceTo (n + n) W (j + 1) = insertN (n + n) (rowsXs rs7) (r.xs ++ vUnit n j)) := by
        show _ = _
        rw [reduceTo_succ (by rw [HWO.out.2.1]; omega), ← hx7, ← HWD.out, wideN_at _ _ _ hlt, rowsXs_at hr]
      rw [hrn] at hcell
      rw [hun] at hcell'
      clear hr7 hx7 hk7 hk3 hred hlead hlen hri hr hb hriu hru hb' hux hun hrn
      go_wp2_with (at_builtin; refine wpList_append_bytes rfl _ _ 26 rfl Try.underlying26 info5 rfl (Own.none_ wr wr.heap.size 5) rfl HB1.out (by omega) (Nat.le_refl _) ?_)
      intro A2 c2 w4 h4 hgr4 _
      have h4 : Own w4 wr.heap.size 5 A2 n c2 r.xs := by simpa using h4
      have k4 : Keep wr w4 := Keep.grown (Keep.refl wr) hgr4 (fun b hb => by simp [Value.ownBlock] at hb)
      have H4 := Lib.hid h4
      have K4 := Lib.hid k4
      have hcell4 : w4.cell? ⟨b', off' + j, none⟩ = some (.slice ru.A n ru.c) := (Below.cell (p := ⟨b', off' + j, none⟩) k4 (World.block_lt_of_cell? wr _ hcell')).trans hcell'
      clear h4 hgr4 k4
      go_wp2_with (at_builtin; refine wpList_append_bytes rfl _ _ 26 rfl Try.underlying26 info5 rfl H4.out rfl (HB2.out.keep (Nat.le_refl _) K4.out) (by omega) K4.out.size ?_)
      intro A5 c5 w5 h5 hgr5 _
      have H5 := Lib.hid h5
      have K5 := Lib.hid (Keep.grown K4.out hgr5 H4.out.rowLe)
      clear h5 hgr5
      go_wp2_with fail
      refine (rins_any rs7.length c7 (n + n) A7 (fun b => w.heap.size ≤ b ∧ b < wr.heap.size) (fun b => b < w5.heap.size) rs7 ⟨A5, n + n, c5, r.xs ++ vUnit n j⟩ _ (HR7.out.turned (Turned.of_keep (F := fun _ => False) K5.out) fun _ _ e => e) (H5.out.lies.mono fun b hb => (H5.out.1.lt b hb).2) (fun b hb => Nat.lt_of_lt_of_le hb.2 K5.out.size) (fun b hb => hb) rfl HL7.out hl7 hlc (by omega)).mono ?_
      rintro e w6 ⟨A8, n8, c8, rfl, rs8, hr8, hc8, hx8, k8⟩
      obtain rfl : rs8.length = n8 := hr8.1
      have K68 := Lib.hid (K5.out.trans k8)
      have HR8 := Lib.hid (hr8.mono (F' := fun b => w.heap.size ≤ b ∧ b < w6.heap.size) fun b hb => by
        rcases hb with hb | hb
        · exact ⟨hb.1, Nat.lt_of_lt_of_le hb.2 K68.out.size⟩
        · exact ⟨Nat.le_trans (Nat.le_trans HK7.out.size K5.out.size) hb.1, hb.2⟩)
      have HX8 := Lib.hid hx8
      clear hr8 hx8 k8
      go_wp2_with fail
      go_roundw
      case rel => exact ⟨j + 1, A8, c8, rs8, by omega, by go_num, rfl, hc8, HR8.out, by rw [HST.out, HX8.out], HK7.out.trans K68.out, HK3.out.trans K68.out⟩
      case measure => simp [intOf]; omega
    · obtain rfl : j = n := by omega
      have hl7 : rs7.length = j := by rw [← rowsXs_len, hx7]; exact HWO.out.2.2
      obtain ⟨wO, hwO⟩ : ∃ wO, wO = wr := ⟨_, rfl⟩
      have HR7' : Hid (RowsIn wO (fun b => w.heap.size ≤ b ∧ b < wO.heap.size) A7 rs7.length rs7) := by rw [hwO]; exact HR7.out
      have KO : Hid (Keep w wO) := by rw [hwO]; exact HK7.out
      have KR : Hid (Keep wO wr) := by rw [hwO]; exact Keep.refl _
      have HX7 := Lib.hid hx7
      have HRL : Hid (∀ r ∈ rs7, r.n = j + j) := fun r hr => by
        have hm : r.xs ∈ reduceTo (j + j) W j := hx7 ▸ List.mem_map.2 ⟨r, hr, rfl⟩
        have hred := reduceTo_red HWO.out.1 j (by rw [HWO.out.2.1]; exact Nat.le_refl _)
        rw [← (HR7.out.2.1 r hr).1]; exact (redL_leads hred.1 _ hm).1
      have HL7 := Lib.hid hl7
      clear hr7 hx7 hk7 hk3 HR7 HK7 HK3 hwO hj hlt
      go_wp2_with fail
      go_loopw [14, 15] (fun out iv wz => ∃ (i : Nat) (A9 : Option Addr) (c9 : Nat), i ≤ j ∧ iv = .int .i64 i ∧ out = .slice A9 i c9 ∧ OwnRows wz wO.heap.size 26 A9 i c9 ((rs7.take i).map (cutR j)) ∧ Keep wO wz) (fun _ iv _ => j - (intOf iv).toNat)
      case atStart => exact ⟨0, none, 0, by omega, rfl, rfl, OwnRows.none_ _ _ _, KR.out⟩
      case round =>
        clear KR
        obtain ⟨i, A9, c9, hi, rfl, rfl, ho9, hk9⟩ := hrel
        have HO9 := Lib.hid ho9
        have HK9 := Lib.hid hk9
        by_cases hlt2 : i < j
        · have e3 : (0 : Int) ≤ (i : Int) := Int.natCast_nonneg _
          have e4 : (i : Int) < (j : Int) := by omega
          obtain ⟨b, off, r, rfl, hb, hr, hcell, hri⟩ := (HR7'.out.turned (Turned.of_keep (F := fun _ => False) hk9) fun _ _ e => e).at_ (show i < rs7.length by rw [HL7.out]; exact hlt2)
          have hrn := HRL.out r (List.mem_of_getElem? hr)
          have hdrop : ∀ w, (Instr.slice 26 (.slice r.A (j + j) r.c) (some (.int .i64 (j : Int))) none none).run Try.prog w = .ok (.slice (dropA r.A r.c j) (j + j - j) (r.c - j)) w := fun w => run_drop (t := 26) (by kernel_rfl) info5 (j + j) r.c j _ (by omega) w
          have ecut : cutR j r = ⟨dropA r.A r.c j, j + j - j, r.c - j, r.xs.drop j⟩ := by rw [cutR, hrn]
          have HSN : Hid ((rs7.take (i + 1)).map (cutR j) = (rs7.take i).map (cutR j) ++ [⟨dropA r.A r.c j, j + j - j, r.c - j, r.xs.drop j⟩]) := by
            show _ = _
            rw [List.take_add_one, hr, ← ecut]; simp
          rw [hrn] at hcell
          have hii : (i : Int) < (rs7.length : Int) := by have := HL7.out; omega
          have hz : j + j - j = j := by omega
          rw [hz] at hdrop HSN
          clear ho9 hk9 hb hr hri hrn ecut hl7 hz
          go_wp2_with (at_builtin; refine wpList_append_row rfl _ _ 22 rfl ⟨dropA r.A r.c j, j, r.c - j, r.xs.drop j⟩ Try.underlying22 infoRow rfl (HO9.out.alloc _) rfl (by rw [World.cell?_alloc_new]; rfl) (by omega) (by have := HK9.out.size; simp; omega) ?_)
          intro A10 c10 w10 h10 hgr10 _
          have HO10 := Lib.hid h10
          have HK10 := Lib.hid (Keep.grown (HK9.out.alloc #[.slice (dropA r.A r.c j) j (r.c - j)] 26) hgr10 HO9.out.rowLe)
          clear h10 hgr10
          go_wp2_with fail
          go_roundw
          case rel => exact ⟨i + 1, A10, c10, by omega, by go_num, rfl, by rw [HSN.out, List.map_take]; exact HO10.out, HK10.out⟩
          case measure => simp [intOf]; omega
        · obtain rfl : i = j := by omega
          have HT : Hid (rs7.take i = rs7) := List.take_of_length_le (by rw [HL7.out]; exact Nat.le_refl _)
          clear ho9 hk9
          go_wp2_with fail
          go_ret2
          have ho := HO9.out
          rw [HT.out] at ho
          refine ⟨_, _, _, rfl, rs7.map (cutR i), RowsIn.of_own ho (fun r hr => ?_) (fun b hb => ?_), ownrows_le ho, by rw [rowsXs_cutR, HX7.out], KO.out.trans HK9.out⟩
          · obtain ⟨r0, hr0, rfl⟩ := List.mem_map.1 hr
            exact (((HR7'.out.2.1 r0 hr0).turned (Turned.of_keep (F := fun _ => False) HK9.out) fun _ _ e => e).cutR i).mono fun b hb => ⟨hb.1, Nat.lt_of_lt_of_le hb.2 HK9.out.size⟩
          · exact ⟨Nat.le_trans KO.out.size (ho.lt b hb).1, (ho.lt b hb).2⟩
set_option maxRecDepth 100000 in
set_option maxHeartbeats 2000000 in
theorem rinverse_any (n c : Nat) (A : Option Addr) (F : Nat → Prop) (rs : List RowV) (w : World) (h : RowsIn w F A n rs) (hF : ∀ b, F b → b < w.heap.size) (hn : n ≤ 255) (hcb : sizeC (rowsXs rs) ≤ 100000) :
    Calls Try.prog 22 #[.slice A n c] w (NewRows w (invV (rowsXs rs)) (invE (rowsXs rs))) := by
  have hlr : (rowsXs rs).length = n := by rw [rowsXs_len, h.1]
  by_cases hdim : ¬ fits (rowsXs rs) ∨ (rowsXs rs).length ≠ sizeC (rowsXs rs)
  · have E : invE (rowsXs rs) = 21 := by rw [invE, if_pos hdim]
    have V : invV (rowsXs rs) = [] := by rw [invV, if_neg (by rw [E]; decide)]
    rw [E, V]
    obtain ⟨er, her⟩ : ∃ er, sizeE (rowsXs rs) = er := ⟨_, rfl⟩
    obtain ⟨nr, hnr⟩ : ∃ nr, sizeR (rowsXs rs) = nr := ⟨_, rfl⟩
    obtain ⟨nc, hnc⟩ : ∃ nc, sizeC (rowsXs rs) = nc := ⟨_, rfl⟩
    have HS := Lib.hid (And.intro hnr (And.intro hnc her))
    obtain ⟨t1, ht1⟩ : ∃ t : Bool, (er != 0) = t := ⟨_, rfl⟩
    obtain ⟨t2, ht2⟩ : ∃ t : Bool, ((nr : Int) != (nc : Int)) = t := ⟨_, rfl⟩
    have hor : t1 = true ∨ (t1 = false ∧ t2 = true) := by
      by_cases hf : fits (rowsXs rs)
      · have h1 : er = 0 := by rw [← her, sizeE, if_pos hf]
        have h2 : nr = n := by rw [← hnr, sizeR, if_pos hf, hlr]
        have h4 : ((nr : Int) != (nc : Int)) = true := bne_iff_ne.2 fun e => by
          rcases hdim with h3 | h3
          · exact h3 hf
          · exact h3 (by rw [hlr, hnc]; omega)
        exact Or.inr ⟨by rw [← ht1, h1]; rfl, by rw [← ht2]; exact h4⟩
      · exact Or.inl (by rw [← ht1, ← her, sizeE, if_neg hf]; decide)
    have H := Lib.hid h
    clear h hF hdim E V her hnr hnc
    go_enter Try.func22, Try.ntmps22
    go_wp2_with fail
    refine (rsize_any n c A F rs _ H.out (by omega)).mono ?_
    rw [HS.out.1, HS.out.2.1, HS.out.2.2]
    rintro e w1 ⟨rfl, q1, rfl⟩
    have K1 := Lib.hid ((Keep.refl w).drewN q1)
    generalize w.drewN q1 = w1 at *
    rcases hor with rfl | ⟨rfl, rfl⟩
    all_goals
      go_wp2_with fail
      go_ret2
      exact ⟨none, 0, 0, rfl, [], RowsIn.nothing _ _ _, Nat.le_refl _, rfl, K1.out⟩
  · have hfit : fits (rowsXs rs) := Classical.byContradiction fun e => hdim (Or.inl e)
    have hsq : sizeC (rowsXs rs) = n := by
      have e : (rowsXs rs).length = sizeC (rowsXs rs) := Classical.byContradiction fun e => hdim (Or.inr e)
      omega
    by_cases hr : (reduceN (rowsXs rs)).length < (rowsXs rs).length
    · have E : invE (rowsXs rs) = 24 := by rw [invE, if_neg hdim, if_pos hr]
      have V : invV (rowsXs rs) = [] := by rw [invV, if_neg (by rw [E]; decide)]
      rw [E, V]
      rw [hlr] at hr
      have hS : sizeR (rowsXs rs) = n ∧ sizeE (rowsXs rs) = 0 := ⟨by rw [sizeR, if_pos hfit, hlr], by rw [sizeE, if_pos hfit]⟩
      have HS := Lib.hid (And.intro hS.1 (And.intro hsq hS.2))
      obtain ⟨rk, hrk⟩ : ∃ rk, (reduceN (rowsXs rs)).length = rk := ⟨_, rfl⟩
      rw [hrk] at hr
      have HRK := Lib.hid hrk
      have H := Lib.hid h
      have HF := Lib.hid hF
      have b1 : ((n : Int) != (n : Int)) = false := by simp
      have b2 : (rk : Int) < (n : Int) := by omega
      clear h hF hdim E V hS hsq hfit hrk hlr
      go_enter Try.func22, Try.ntmps22
      go_wp2_with fail
      refine (rsize_any n c A F rs _ H.out (by omega)).mono ?_
      rw [HS.out.1, HS.out.2.1, HS.out.2.2]
      rintro e w1 ⟨rfl, q1, rfl⟩
      have K1 := Lib.hid ((Keep.refl w).drewN q1)
      generalize w.drewN q1 = w1 at *
      go_wp2_with fail
      refine (rrank_any n c A F rs _ (H.out.turned (Turned.of_keep (F := fun _ => False) K1.out) fun _ _ e => e) (fun b hb => Nat.lt_of_lt_of_le (HF.out b hb) K1.out.size) (by omega) (by rw [HS.out.2.1]; omega)).mono ?_
      rw [HRK.out, HS.out.2.2]
      rintro e w2 ⟨rfl, k2⟩
      have K2 := Lib.hid (K1.out.trans k2)
      clear k2
      go_wp2_with fail
      go_ret2
      exact ⟨none, 0, 0, rfl, [], RowsIn.nothing _ _ _, Nat.le_refl _, rfl, K2.out⟩
    · have E : invE (rowsXs rs) = 0 := by rw [invE, if_neg hdim, if_neg hr]
      have V : invV (rowsXs rs) = (reduceTo (n + n) (wideN (rowsXs rs) n) n).map (List.drop n) := by rw [invV, if_pos E, hlr]
      rw [E, V]
      exact rinverse_in n c A F rs w h hF hn hfit hsq (by omega)
end Go.Proofs.Ytcmjglmagkjdoaa
