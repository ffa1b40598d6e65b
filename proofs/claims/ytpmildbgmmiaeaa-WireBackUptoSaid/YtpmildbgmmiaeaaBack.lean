/- The walk of WireBack. -/
import Derived.Test.YtpmildbgmmiaeaaThings
namespace Go.Proofs.Ytpmildbgmmiaeaa
open Go.RowKit
/-- Forms, one behind the other. -/
def formsN (l : List ThingV) : List Nat := l.flatMap ThingV.form
theorem formsN_take {l : List ThingV} {k : Nat} {x : ThingV} (h : l[k]? = some x) : formsN (l.take (k + 1)) = formsN (l.take k) ++ x.form := by
  rw [take_snoc_at h]; simp [formsN]
theorem formsN_drop {l : List ThingV} {k : Nat} {x : ThingV} (h : l[k]? = some x) : formsN (l.drop k) = x.form ++ formsN (l.drop (k + 1)) := by
  have hk : k < l.length := by
    rcases Nat.lt_or_ge k l.length with h1 | h1
    · exact h1
    · rw [List.getElem?_eq_none h1] at h; cases h
  have e : x = l[k] := by rw [List.getElem?_eq_getElem hk] at h; exact (Option.some.inj h).symm
  rw [List.drop_eq_getElem_cons hk, ← e]; simp [formsN]
theorem formsN_le (l : List ThingV) (k : Nat) : (formsN (l.take k)).length ≤ (formsN l).length := by
  have h : formsN l = formsN (l.take k) ++ formsN (l.drop k) := by
    rw [formsN, formsN, formsN, ← List.flatMap_append, List.take_append_drop]
  rw [h, List.length_append]; omega
/-- A slice of things. -/
def ThingsAt (w : World) (B : Nat) (A : Option Addr) (n : Nat) (l : List ThingV) : Prop := FieldsAt w B A n 3 (l.map ThingV.vals) ∧ ∀ x ∈ l, ThingV.Ok w B x
theorem ThingsAt.keep {w w' : World} {B n : Nat} {A : Option Addr} {l : List ThingV} (h : ThingsAt w B A n l) (hB : B ≤ w.heap.size) (k : Keep w w') : ThingsAt w' B A n l :=
  ⟨h.1.keep hB k, fun x hx => (h.2 x hx).below (Below.mono k hB)⟩
theorem ThingsAt.length {w : World} {B n : Nat} {A : Option Addr} {l : List ThingV} (h : ThingsAt w B A n l) : l.length = n := by have := h.1.1; simpa using this
theorem ThingsAt.takes {w : World} {B n m : Nat} {A : Option Addr} {l : List ThingV} (h : ThingsAt w B A n l) (hm : m ≤ n) : ThingsAt w B A m (l.take m) :=
  ⟨by have := h.1.takes hm; rwa [← List.map_take] at this, fun x hx => h.2 x (List.mem_of_mem_take hx)⟩
theorem ThingsAt.at_ {w : World} {B n k : Nat} {A : Option Addr} {l : List ThingV} (h : ThingsAt w B A n l) (hk : k < n) :
    ∃ b off x, A = some ⟨b, off, none⟩ ∧ b < B ∧ l[k]? = some x ∧ ThingV.Ok w B x ∧ w.cell? ⟨b, off + k * 3, none⟩ = some (.int .u8 (x.a : Int)) ∧ w.cell? ⟨b, off + (k * 3 + 1), none⟩ = some (.int .u64 (x.n : Int)) ∧ w.cell? ⟨b, off + (k * 3 + 2), none⟩ = some (.slice x.r.A x.r.n x.r.c) := by
  obtain ⟨b, off, e, hb, hc⟩ := h.1.2.2 (by omega)
  have hl : k < l.length := by rw [h.length]; exact hk
  have hr : (l.map ThingV.vals)[k]? = some (l[k]).vals := by rw [List.getElem?_map, List.getElem?_eq_getElem hl]; rfl
  exact ⟨b, off, l[k], e, hb, List.getElem?_eq_getElem hl, h.2 _ (List.getElem_mem hl), hc k _ 0 _ hr rfl, hc k _ 1 _ hr rfl, hc k _ 2 _ hr rfl⟩
set_option maxRecDepth 100000 in
set_option linter.unusedVariables false in
set_option maxHeartbeats 8000000 in
theorem back_any (n c y : Nat) (A : Option Addr) (l : List ThingV) (w : World) (h : ThingsAt w w.heap.size A n l) (hn : n ≤ 140737488351232) (hnc : n ≤ c) (hy : y < 65536) (hS : (formsN (l.take 60)).length ≤ 4000000) :
    Calls Try.prog 5 #[.slice A n c, .int .u16 (y : Int)] w fun e w' => e = .returned (.bool true) ∧ Keep w w' := by
  obtain ⟨k, hk⟩ : ∃ k, min n 60 = k := ⟨_, rfl⟩
  have b2 : (k : Int) ≤ (n : Int) := by omega
  have b3 : (0 : Int) ≤ (k : Int) := Int.natCast_nonneg _
  have b4 : (k : Int) ≤ (c : Int) := by omega
  have hT := h.takes (m := k) (by omega)
  have hS2 : (formsN (l.take k)).length ≤ 4000000 := by
    have e : l.take k = (l.take 60).take k := by rw [List.take_take]; congr 1; omega
    rw [e]; exact Nat.le_trans (formsN_le _ _) hS
  generalize l.take k = T at *
  have HT := Lib.hid hT
  have HS := Lib.hid hS2
  have hmin : ∀ w, (Builtin.min_ #[3, 3] 3 #[.int .i64 (n : Int), .int .i64 60]).run Try.prog w = .ok (.int .i64 (k : Int)) w := fun w => by
    rw [run_min_int2]; congr 2; split <;> omega
  have b60 : k ≤ 60 := by omega
  clear h hT hS hS2 hk
  go_enter Try.func5, Try.ntmps5
  go_wp2_with fail
  clear hmin
  go_loopw [5, 30] (fun o i wr => ∃ (j : Nat) (Ao : Option Addr) (no co : Nat), j ≤ k ∧ i = .int .i64 j ∧ o = .slice Ao no co ∧ Own wr w.heap.size 5 Ao no co (formsN (T.take j)) ∧ Keep w wr) (fun _ i _ => k - (intOf i).toNat)
  case atStart => exact ⟨0, none, 0, 0, by omega, rfl, rfl, Own.none_ _ _ _, Keep.refl _⟩
  case round =>
    obtain ⟨j, Ao, no, co, hj, rfl, rfl, hown, hkeep⟩ := hrel
    have hlo := hown.length
    have hle := formsN_le T j
    have hS := HS.out
    have hno : no ≤ 4000000 := by omega
    have HL := Lib.hid hlo
    have HO := Lib.hid hown
    have HK := Lib.hid hkeep
    clear hlo hown hkeep hle hS
    by_cases hlt : j < k
    · obtain ⟨b, off, x, rfl, hb, hx, hok, c1, c2, c3⟩ := (HT.out.keep (Nat.le_refl _) HK.out).at_ hlt
      have HX := Lib.hid hx
      have HOK := Lib.hid hok
      have c2' := c2
      rw [← Nat.add_assoc] at c2'
      have c3' := c3
      rw [← Nat.add_assoc] at c3'
      have e1 : (0 : Int) ≤ (j : Int) := Int.natCast_nonneg _
      have e2 : (j : Int) < (k : Int) := by omega
      clear hx hok
      go_wp2_with fail
      refine (sized_any w.heap.size x _ (HOK.out.below (Below.alloc (Below.refl _ _) HK.out.size _))).mono ?_
      rintro e w1 ⟨rfl, k1⟩
      have d3 : w1.cell? ⟨wr.heap.size, 2, none⟩ = some (.slice x.r.A x.r.n x.r.c) := by
        rw [World.cell?_of_block (k1.block wr.heap.size (by simp))]
        simp [go_sem]
      have K1 := Lib.hid (Keep.trans ((Keep.refl wr).alloc _ _) k1)
      have hform : formsN (T.take (j + 1)) = formsN (T.take j) ++ x.form := formsN_take HX.out
      have HF := Lib.hid hform
      have hroom : no + x.form.length ≤ 4000000 := by
        have := formsN_le T (j + 1)
        rw [hform, List.length_append, HL.out] at this
        exact Nat.le_trans this HS.out
      clear k1 c1 c2 c3 c2' c3' hform
      by_cases h0 : x.sz = 0
      · have e3 : x.form = x.r.xs := by rw [ThingV.form, if_pos h0]
        rw [h0]
        rw [e3, HOK.out.r.length] at hroom
        have HF2 : Hid (formsN (T.take (j + 1)) = formsN (T.take j) ++ x.r.xs) := by show _ = _; rw [← e3]; exact HF.out
        have HR := Lib.hid ((HOK.out.r.below (Below.mono K1.out HK.out.size)))
        clear h0 e3
        go_wp2_with (at_builtin; refine wpList_append_bytes rfl _ _ 22 rfl Try.underlying22 info5 rfl (HO.out.keep K1.out) rfl HR.out (by omega) (Nat.le_trans HK.out.size K1.out.size) ?_)
        intro A2 c2 w2 h2 hgr2 _
        have HO2 := Lib.hid h2
        have HK2 := Lib.hid ((HK.out.trans K1.out).grown hgr2 (HO.out.keep K1.out).rowLe)
        clear h2 hgr2
        go_wp2_with fail
        go_roundw
        case rel => exact ⟨j + 1, A2, _, c2, by omega, by go_num, rfl, by rw [HF2.out]; exact HO2.out, HK2.out⟩
        case measure => simp [intOf]; omega
      · have e3 : x.form = formN x.sz x.num := by rw [ThingV.form, if_neg h0]
        have hfit := ThingV.num_fit HOK.out h0
        have hlt9 := x.sz_lt
        have hn64 := ThingV.num_lt HOK.out
        rw [e3, formN_length] at hroom
        have HF2 : Hid (formsN (T.take (j + 1)) = formsN (T.take j) ++ formN x.sz x.num) := by show _ = _; rw [← e3]; exact HF.out
        have b0 : (((x.sz : Nat) : Int) == 0) = false := by rw [beq_eq_false_iff_ne]; omega
        have e4 : numOf (formsN (T.take j)) x.num (x.sz : Int) = formsN (T.take j) ++ formN x.sz x.num := by rw [numOf, if_neg (by omega), Int.toNat_natCast, laysOf, if_pos hfit]
        have e5 : numErr x.num (x.sz : Int) = 0 := by rw [numErr, if_neg (by omega), Int.toNat_natCast, laysErr, if_pos hfit]
        have HE := Lib.hid (And.intro e4 e5)
        generalize x.num = m at *
        generalize x.sz = s at *
        clear e3 e4 e5 h0 hfit
        go_wp2_with fail
        refine (wnum_any _ no co m (s : Int) Ao _ _ (HO.out.keep K1.out).bytes (Nat.le_refl _) (by omega) hn64).mono ?_
        rintro e w2 ⟨A2, n2, c2, rfl, o2, k2⟩
        rw [HE.out.2]
        rw [HE.out.1] at o2
        have hl2 := o2.length
        rw [List.length_append, HL.out, formN_length] at hl2
        have e6 : (no : Int) + (s : Int) = (n2 : Int) := by omega
        have HO2 := Lib.hid (o2.lower (base' := w.heap.size) (Nat.le_trans HK.out.size K1.out.size))
        have HK2 := Lib.hid ((HK.out.trans K1.out).trans k2)
        have b5 : ((n2 : Int) != (n2 : Int)) = false := by simp
        clear o2 k2 hl2 d3
        go_wp2_with fail
        go_roundw
        case rel => exact ⟨j + 1, A2, n2, c2, by omega, by go_num, rfl, by rw [HF2.out]; exact HO2.out, HK2.out⟩
        case measure => simp [intOf]; omega
    · obtain rfl : k = j := by omega
      have hTk : T.take k = T := List.take_of_length_le (by rw [HT.out.length]; exact Nat.le_refl _)
      have HO1 : Hid (Own wr w.heap.size 5 Ao no co (formsN T)) := by show Own _ _ _ _ _ _ _; rw [← hTk]; exact HO.out
      have HL1 : Hid ((formsN T).length = no) := HO1.out.length
      clear hTk HO HL
      obtain ⟨wo, rfl⟩ : ∃ wo : World, wo = wr := ⟨_, rfl⟩
      go_wp2_with fail
      refine (wnew_any _ no co Ao _ _ HO1.out.bytes (Nat.le_refl _) (by omega)).mono ?_
      rintro e w1 ⟨g, F, rfl, r1, f1, k1⟩
      have hg : wo.heap.size ≤ g := f1 g r1.at_
      have R1 := Lib.hid r1
      have K1 := Lib.hid k1
      clear r1 f1 k1
      go_wp2_with fail
      go_loopw [69] (fun i wr => ∃ (j : Nat) (F : Nat → Prop), j ≤ k ∧ i = .int .i64 j ∧ ReadR wr F g (formsN (T.drop j)) ∧ Keep wo wr) (fun i _ => k - (intOf i).toNat)
      case atStart => exact ⟨0, F, by omega, rfl, R1.out, K1.out⟩
      case round =>
        clear R1 K1
        obtain ⟨j, F, hj, rfl, hrd, hkp⟩ := hrel
        have HR := Lib.hid hrd
        have HP := Lib.hid hkp
        have HKW := Lib.hid (HK.out.trans hkp)
        clear hrd hkp
        by_cases hlt : j < k
        · obtain ⟨b, off, x, rfl, hb, hx, hok, c1, c2, c3⟩ := (HT.out.keep (Nat.le_refl _) HKW.out).at_ hlt
          have hdr := formsN_drop hx
          have HX := Lib.hid hx
          have HOK := Lib.hid hok
          have HD := Lib.hid hdr
          have c2' := c2
          rw [← Nat.add_assoc] at c2'
          have c3' := c3
          rw [← Nat.add_assoc] at c3'
          have e1 : (0 : Int) ≤ (j : Int) := Int.natCast_nonneg _
          have e2 : (j : Int) < (k : Int) := by omega
          clear hx hok hdr
          go_wp2_with fail
          refine (reads_good w.heap.size x F g (formsN (T.drop (j + 1))) _ (HOK.out.below (Below.alloc (Below.refl _ _) HKW.out.size _)) (by rw [← HD.out]; exact HR.out.keep ((Keep.refl _).alloc _ _)) (by have := HKW.out.size; simp; omega) (Nat.le_trans HK.out.size hg)).mono ?_
          rintro e w3 ⟨rfl, ⟨F3, r3, f3⟩, k3⟩
          have R3 := Lib.hid r3
          have K3 := Lib.hid (grown_keep k3 wo (HP.out.alloc _ _) hg)
          clear r3 f3 k3 c1 c2 c3 c2' c3'
          go_wp2_with fail
          go_roundw
          case rel => exact ⟨j + 1, F3, by omega, by go_num, R3.out, K3.out⟩
          case measure => simp [intOf]; omega
        · obtain rfl : k = j := by omega
          have hz : formsN (T.drop k) = [] := by rw [List.drop_of_length_le (by rw [HT.out.length]; exact Nat.le_refl _)]; rfl
          have HR0 : Hid (ReadR wr F g []) := by show ReadR _ _ _ _; rw [← hz]; exact HR.out
          clear hz HR
          go_wp2_with fail
          refine (wend_any F g [] _ HR0.out).mono ?_
          rintro e w3 ⟨rfl, rfl⟩
          rw [show endErr [] = 0 from rfl]
          by_cases h0 : no = 0
          · subst h0
            go_wp2_with fail
            refine (awake_any _).mono ?_
            rintro e w3 ⟨rfl, s3⟩
            have S3 := Lib.hid s3
            clear s3
            go_wp2_with fail
            go_ret
            exact ⟨rfl, HKW.out.trans S3.out⟩
          · have b0 : ((no : Int) == 0) = false := by rw [beq_eq_false_iff_ne]; omega
            obtain ⟨q, hq⟩ : ∃ q, y % no = q := ⟨_, rfl⟩
            have hqlt : q < no := by rw [← hq]; exact Nat.mod_lt _ (by omega)
            have e1 : (y : Int) % (no : Int) = (q : Int) := by rw [← hq]; simp
            have e2 : (0 : Int) ≤ (q : Int) := Int.natCast_nonneg _
            have e3 : (q : Int) ≤ (no : Int) := by omega
            have e4 : (q : Int) ≤ (co : Int) := by have := own_le HO1.out; omega
            have e5 : (no : Int) ≠ 0 := by omega
            clear hq
            go_wp2_with fail
            have HO2 := Lib.hid (HO1.out.keep HP.out)
            have HB2 := Lib.hid (HO2.out.bytes.cut (m := q) (by omega))
            have HQ := Lib.hid hqlt
            refine (wnew_any _ q co Ao _ _ HB2.out (Nat.le_refl _) (by omega)).mono ?_
            rintro e w4 ⟨g2, F2, rfl, r4, f4, k4⟩
            have hg2 : wr.heap.size ≤ g2 := f4 g2 r4.at_
            have hL0 : ((formsN T).take q).length = q := by rw [List.length_take, HL1.out]; omega
            have R4 := Lib.hid r4
            have K4 := Lib.hid k4
            have HL0 := Lib.hid hL0
            clear r4 f4 k4 e1 e2 e3 e4 e5 hqlt hL0
            obtain ⟨wp, rfl⟩ : ∃ wp : World, wp = wr := ⟨_, rfl⟩
            go_wp2_with fail
            go_loopw [103] (fun i wr => ∃ (j : Nat) (F : Nat → Prop) (L : List Nat), j ≤ k ∧ i = .int .i64 j ∧ ReadR wr F g2 L ∧ L.length < (formsN (T.drop j)).length ∧ L = (formsN (T.drop j)).take L.length ∧ Keep wp wr) (fun i _ => k - (intOf i).toNat)
            case atStart => exact ⟨0, F2, (formsN T).take q, by omega, rfl, R4.out, by rw [HL0.out, List.drop_zero, HL1.out]; exact HQ.out, by rw [HL0.out, List.drop_zero], K4.out⟩
            case round =>
              clear R4 K4 HQ HL0 HB2
              obtain ⟨j, F, L, hj, rfl, hrd, hl1, hl2, hkp⟩ := hrel
              have HR := Lib.hid hrd
              have HP2 := Lib.hid hkp
              have HKW2 := Lib.hid (HKW.out.trans hkp)
              have HLT := Lib.hid hl1
              have HLE := Lib.hid hl2
              clear hrd hkp hl1 hl2
              by_cases hlt : j < k
              · obtain ⟨b, off, x, rfl, hb, hx, hok, c1, c2, c3⟩ := (HT.out.keep (Nat.le_refl _) HKW2.out).at_ hlt
                have hdr := formsN_drop hx
                have HOK := Lib.hid hok
                have HD := Lib.hid hdr
                have c2' := c2
                rw [← Nat.add_assoc] at c2'
                have c3' := c3
                rw [← Nat.add_assoc] at c3'
                have e1 : (0 : Int) ≤ (j : Int) := Int.natCast_nonneg _
                have e2 : (j : Int) < (k : Int) := by omega
                have HWG : Hid (w.heap.size ≤ g2) := Nat.le_trans HKW.out.size hg2
                clear hx hok hdr
                go_wp2_with fail
                refine (wleft_any F g2 L _ (HR.out.keep ((Keep.refl _).alloc _ _))).mono ?_
                rintro e w5 ⟨rfl, rfl⟩
                go_wp2_with fail
                by_cases hs : L.length < x.form.length
                · refine (reads_short w.heap.size x F g2 L _ (HOK.out.below (Below.alloc (Below.refl _ _) HKW2.out.size _)) (HR.out.keep ((Keep.refl _).alloc _ _)) hs (by have := HKW2.out.size; simp; omega) HWG.out).mono ?_
                  rintro e w5 ⟨v, rfl, ⟨F5, r5, f5⟩, k5⟩
                  have R5 := Lib.hid r5
                  have K5 := Lib.hid (grown_keep k5 wp (HP2.out.alloc _ _) hg2)
                  clear r5 f5 k5 c1 c2 c3 c2' c3' hs
                  go_wp2_with fail
                  refine (awake_any _).mono ?_
                  rintro e w6 ⟨rfl, s6⟩
                  have S6 := Lib.hid s6
                  clear s6
                  go_wp2_with fail
                  refine (wleft_any F5 g2 L _ (R5.out.keep S6.out)).mono ?_
                  rintro e w7 ⟨rfl, rfl⟩
                  have b9 : ((L.length : Int) == (L.length : Int)) = true := beq_iff_eq.2 rfl
                  go_wp2_with fail
                  go_ret
                  exact ⟨rfl, (HKW.out.trans K5.out).trans S6.out⟩
                · have hL : L = x.form ++ L.drop x.form.length := by
                    have h1 : L.take x.form.length = x.form := by
                      rw [HLE.out, HD.out, List.take_take, Nat.min_eq_left (by omega), List.take_left]
                    conv => lhs; rw [← List.take_append_drop x.form.length L, h1]
                  have hl2 : (L.drop x.form.length).length < (formsN (T.drop (j + 1))).length := by
                    have := HLT.out
                    rw [HD.out, List.length_append] at this
                    rw [List.length_drop]; omega
                  have hl3 : L.drop x.form.length = (formsN (T.drop (j + 1))).take (L.drop x.form.length).length := by
                    have h1 := HLE.out
                    rw [HD.out] at h1
                    have h2 : L.drop x.form.length = ((x.form ++ formsN (T.drop (j + 1))).take L.length).drop x.form.length := by rw [← h1]
                    rw [List.drop_take, List.drop_left] at h2
                    rw [List.length_drop]; exact h2
                  have HLT2 := Lib.hid hl2
                  have HLE2 := Lib.hid hl3
                  have HLL := Lib.hid hL
                  generalize L.drop x.form.length = L2 at *
                  clear hL hl2 hl3 hs
                  refine (reads_good w.heap.size x F g2 L2 _ (HOK.out.below (Below.alloc (Below.refl _ _) HKW2.out.size _)) (by rw [← HLL.out]; exact HR.out.keep ((Keep.refl _).alloc _ _)) (by have := HKW2.out.size; simp; omega) HWG.out).mono ?_
                  rintro e w5 ⟨rfl, ⟨F5, r5, f5⟩, k5⟩
                  have R5 := Lib.hid r5
                  have K5 := Lib.hid (grown_keep k5 wp (HP2.out.alloc _ _) hg2)
                  clear r5 f5 k5 c1 c2 c3 c2' c3'
                  go_wp2_with fail
                  go_roundw
                  case rel => exact ⟨j + 1, F5, L2, by omega, by go_num, R5.out, HLT2.out, HLE2.out, K5.out⟩
                  case measure => simp [intOf]; omega
              · obtain rfl : k = j := by omega
                exfalso
                have := HLT.out
                rw [List.drop_of_length_le (by rw [HT.out.length]; exact Nat.le_refl _)] at this
                simp [formsN] at this
end Go.Proofs.Ytpmildbgmmiaeaa
