/- The landed code of layer 7: Solve tells rows that stand apart. -/
import Derived.Test.YticllkklbogcnaaBd
import Derived.Test.YticllkklbogcnaaRowsMk
namespace Go.Proofs.Yticllkklbogcnaa
open Go.RowKit Lin
set_option linter.unusedVariables false
set_option linter.unusedSimpArgs false
/-- Symbols being told. -/
structure SolJ (w wr : World) (q g k : Nat) (B : List (List Nat)) (rs : List RowV) : Prop where
  base : w.heap.size = q
  st : OwnRows wr q 31 (some ⟨q, 0, none⟩) g g (rs ++ List.replicate (g - k) ⟨none, 0, 0, []⟩)
  len : rs.length = k
  own : ∀ r ∈ rs, Own wr (q + 1) 5 r.A r.n r.c r.xs
  xs : rowsXs rs = (B.take k).map (List.drop g)
  keep : Keep w wr
  inc : ∀ (i j : Nat) (r r' : RowV), i < j → rs[i]? = some r → rs[j]? = some r' → ∀ x y, (Value.slice r.A r.n r.c).ownBlock = some x → (Value.slice r'.A r'.n r'.c).ownBlock = some y → x < y
section
variable {w wr w2 : World} {q g k : Nat} {B : List (List Nat)} {rs : List RowV}
theorem SolJ.later (h : SolJ w wr q g k B rs) (kp : Keep wr w2) : SolJ w w2 q g k B rs :=
  ⟨h.base, h.st.keep kp, h.len, fun p hp => (h.own p hp).keep kp, h.xs, h.keep.trans kp, h.inc⟩
theorem SolJ.set (h : SolJ w wr q g k B rs) (hk : k < g) {r : RowV} {x : List Nat} (hr : Own wr (q + 1) 5 r.A r.n r.c r.xs) (hB : B[k]? = some x) (hx : r.xs = x.drop g) (hn : ∀ r0 ∈ rs, ∀ x y, (Value.slice r0.A r0.n r0.c).ownBlock = some x → (Value.slice r.A r.n r.c).ownBlock = some y → x < y) :
    SolJ w (wr.setCell ⟨q, k, none⟩ (.slice r.A r.n r.c)) q g (k + 1) B (rs ++ [r]) := by
  have T : Turned (fun b => b = q) wr (wr.setCell ⟨q, k, none⟩ (.slice r.A r.n r.c)) := Turned.set (F := fun b => b = q) wr ⟨q, k, none⟩ _ rfl
  refine ⟨h.base, ?_, by rw [List.length_append, h.len]; rfl, fun x hx => ?_, ?_, T.keep h.keep fun i e => by rw [e, h.base]; exact Nat.le_refl _, fun i j a b hij ha hb x y hx hy => ?_⟩
  · have e := h.st.stored (i := k) r
    rw [List.set_append_right _ _ (by rw [h.len]; exact Nat.le_refl _), h.len, Nat.sub_self, show g - k = (g - (k + 1)) + 1 by omega, List.replicate_succ, List.set_cons_zero] at e
    rwa [List.append_assoc]
  · have key : Own wr (q + 1) 5 x.A x.n x.c x.xs := by
      rcases List.mem_append.1 hx with e | e
      · exact h.own x e
      · rw [List.mem_singleton.1 e]; exact hr
    exact key.turned T fun b hb e => by have := (key.1.lt b hb).1; omega
  · have e := h.xs
    rw [rowsXs] at e ⊢
    rw [List.map_append, e, List.take_add_one, hB, Option.toList_some, List.map_append, List.map_singleton, List.map_singleton, hx]
  · rcases Nat.lt_or_ge j rs.length with hj | hj
    · rw [List.getElem?_append_left hj] at hb
      rw [List.getElem?_append_left (by omega)] at ha
      exact h.inc i j a b hij ha hb x y hx hy
    · rw [List.getElem?_append_right hj] at hb
      have hj0 : j - rs.length = 0 := by
        have := (List.getElem?_eq_some_iff.1 hb).1
        simpa using this
      rw [hj0] at hb
      obtain rfl : r = b := by simpa using hb
      rw [List.getElem?_append_left (by omega)] at ha
      exact hn a (List.mem_of_getElem? ha) x y hx hy
end
section
variable {w : World} {F : Nat → Prop} {b g s : Nat} {B : List (List Nat)}
set_option maxRecDepth 100000 in
set_option maxHeartbeats 2000000 in
theorem bsolve_ap (h : BasR w F b g s B) (hg : B.length = g) : Calls Try.prog 20 #[.pointer (some ⟨b, 0, none⟩)] w fun e w' => ∃ A c rs, e = .returned (.tuple #[.slice A g c, .int .i64 0]) ∧ OwnRows w' w.heap.size 31 A g c rs ∧ (∀ r ∈ rs, Own w' w.heap.size 5 r.A r.n r.c r.xs) ∧ rowsXs rs = B.map (List.drop g) ∧ Keep w w' ∧ (∀ (i j : Nat) (r r' : RowV), i < j → rs[i]? = some r → rs[j]? = some r' → ∀ x y, (Value.slice r.A r.n r.c).ownBlock = some x → (Value.slice r'.A r'.n r'.c).ownBlock = some y → x < y) := by
  obtain ⟨A, n, c, ps, h⟩ := h.open_
  have hl := h.len
  obtain rfl : n = g := by omega
  have c0 := h.c0
  have c2 := h.c2
  have h1 := h.g1
  have hg2 := h.g2
  have H := Lib.hid h
  have HB := Lib.hid (And.intro (h.lt b h.at_) (And.intro c2 hl))
  have e1 : decide ((n : Int) < (n : Int)) = false := decide_eq_false (by omega)
  have e2 : decide (n < n) = false := decide_eq_false (by omega)
  have mks := fun w => run_make_rows (P := Try.prog) Try.underlying48 infoRow n (by omega) w
  have h0 : SolJ w ((w.alloc (.cells (madeCells #[.slice none 0 0] n) 31)).drew) w.heap.size n 0 B [] := by
    exact ⟨rfl, by simpa using (OwnRows.made w 31 n (by omega)).drew, rfl, fun p hp => by simp at hp, by simp [rowsXs], ((Keep.refl w).alloc _ _).drew, fun i j r r' _ h => by simp at h⟩
  obtain ⟨⟨q, hq⟩⟩ : Nonempty (∃ q, w.heap.size = q) := ⟨_, rfl⟩
  rw [hq] at h0
  have H0 := Lib.hid h0
  have HQ := Lib.hid hq
  clear h hl hg h0
  go_enter Try.func20, Try.ntmps20
  go_wp2_with fail
  refine (bmade_eq b n _ c0 h1).mono ?_
  rintro e w' ⟨rfl, rfl⟩
  go_wp2_with fail
  go_region
  go_upto_region 6 with fail
  try simp only [hq]
  clear hq
  generalize (w.alloc (.cells (madeCells #[.slice none 0 0] n) 31)).drew = w4 at *
  have c2' := (H0.out.keep.cell (p := ⟨b, 2, none⟩) HB.out.1).trans HB.out.2.1
  clear mks c0 c2
  go_wp2_with fail
  clear c2'
  go_loopw [30] (fun i wr => ∃ (k : Nat) (rs : List RowV), k ≤ n ∧ i = .int .i64 k ∧ SolJ w wr q n k B rs) (fun i _ => n - (intOf i).toNat)
  case atStart => exact ⟨0, [], by omega, rfl, H0.out⟩
  case round =>
    obtain ⟨k, rs, hk, rfl, hI⟩ := hrel
    have HI := Lib.hid hI
    clear hI H0
    by_cases hlt : k < n
    · obtain ⟨b2, o2, p, rfl, hb2, hp, hc1, hc3, hl2, hl3⟩ := (H.out.st.keep HI.out.keep).at_ hlt
      have hsz := H.out.size p (List.mem_of_getElem? hp)
      have hrow := (H.out.sides).2
      have hBk : B[k]? = some (p.a.xs ++ p.b.xs) := by rw [← H.out.xs, List.getElem?_map, hp]; rfl
      have hdr : p.b.xs = (p.a.xs ++ p.b.xs).drop n := by rw [List.drop_left' (H.out.lens (List.mem_of_getElem? hp)).1]
      obtain ⟨⟨pA, pn, pc, px⟩, ⟨sA, sn, sc, sx⟩⟩ := p
      obtain ⟨z1, z2⟩ := hsz
      simp only at z1 z2 hBk hdr
      obtain rfl : sn = s := z2
      have e3 : (0 : Int) ≤ (k : Int) := Int.natCast_nonneg _
      have e4 : (k : Int) < (n : Int) := by omega
      have HP := Lib.hid (And.intro hBk (And.intro hdr (And.intro (hl3.bytes (B := wr.heap.size) fun x hx => Nat.lt_of_lt_of_le (H.out.lt x hx) HI.out.keep.size) H.out.s2)))
      have HLT : Hid (k < n) := hlt
      clear hp hl2 hl3 hb2 hBk hdr hrow z1
      go_upto_region 9 with fail
      have hkw : Keep wr (wr.alloc (.cells #[.slice pA pn pc, .slice sA sn sc] 33)) := (Keep.refl wr).alloc _ _
      have hnew := heap_alloc_new wr (.cells #[.slice pA pn pc, .slice sA sn sc] 33)
      obtain ⟨q5, hq5⟩ : ∃ q5, wr.heap.size = q5 := ⟨_, rfl⟩
      have HQ5 := Lib.hid hq5
      rw [hq5] at hnew
      simp only [hq5]
      clear hc1 hc3
      generalize (wr.alloc (.cells #[.slice pA pn pc, .slice sA sn sc] 33)) = w5 at *
      have H5 := Lib.hid (HI.out.later hkw)
      have HKW := Lib.hid hkw
      have d1 : w5.cell? ⟨q5, 1, none⟩ = some (.slice sA sn sc) := cell_of_row _ _ _ _ _ _ hnew
      clear hnew hkw hq5
      go_wp2_with fail
      refine (clone_any _ _ _ _ sx _ (HP.out.2.2.1.keep (Nat.le_refl _) HKW.out) HKW.out.size (by have := HP.out.2.2.2; omega)).mono ?_
      rintro e w6 ⟨A6, n6, c6, rfl, o6, k6⟩
      have H6 := Lib.hid (H5.out.later k6)
      have O6 := Lib.hid o6
      have S5 := Lib.hid HKW.out.size
      have z0 := World.ownsRow.cellAt H6.out.st k (by omega)
      have f0 := World.ownsRow.frozenAt H6.out.st k
      rw [List.getElem?_map, List.getElem?_append_right (by rw [H6.out.len]; exact Nat.le_refl _), H6.out.len, Nat.sub_self, show n - k = (n - (k + 1)) + 1 by omega, List.replicate_succ, List.getElem?_cons_zero] at z0
      change _ = some (Value.slice none 0 0) at z0
      clear d1 o6 k6
      go_wp2_with fail
      go_roundw
      case rel => exact ⟨k + 1, _, by omega, by go_num, H6.out.set hlt (r := ⟨A6, n6, c6, sx⟩) (O6.out.lower (by have h1 := S5.out; have h2 := HI.out.st.block (by omega); obtain ⟨g, e, _, hgl⟩ := h2; cases e; omega)) HP.out.1 HP.out.2.1 (fun r0 hr0 x y hx hy => by have h1 := (HI.out.own r0 hr0).1.lt x hx; have h2 := O6.out.1.lt y hy; have h3 := S5.out; omega)⟩
      case measure => simp [intOf]; omega
    · obtain rfl : k = n := by omega
      go_wp2_with fail
      go_ret2
      have o := HI.out.st
      rw [Nat.sub_self, List.replicate_zero, List.append_nil] at o
      refine ⟨_, _, rs, rfl, by rw [HQ.out]; exact o, fun r hr => (HI.out.own r hr).lower (by rw [HQ.out]; omega), ?_, HI.out.keep, HI.out.inc⟩
      rw [HI.out.xs, List.take_of_length_le (by rw [HB.out.2.2]; exact Nat.le_refl _)]
end
end Go.Proofs.Yticllkklbogcnaa
