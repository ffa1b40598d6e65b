/- The landed code of layer 7: what tells what is left of a row. -/
import Derived.Test.YtgelalbmhllccaaGreatQaf
import Derived.Deep.DeepCutAuto
import Derived.Deep.CutBlock
import Derived.StillTailTactics
import Derived.Test.YtgelalbmhllccaaGreatQab
import Derived.Deep.LoopGhost
import Derived.Laws.CopyRow
import Derived.Laws.MakeOwn
import Derived.Lib.Overlaps
import Derived.Laws.Externs
import Derived.WalkKit
import Derived.Deep.RegionLaw
namespace Go.Proofs.YtgelalbmhllccaaGreat
open Go.RowKit
set_option linter.unusedVariables false
set_option linter.unusedSimpArgs false
/-- What the closure has taken: the basis, the row, how much of each row goes in. -/
structure LeftC (w w' : World) (b n : Nat) (r : PairV) (D : List Nat) (v1 v2 v3 : Nat) (AD : Option Addr) (cD : Nat) : Prop where
  basis : Held w' v1 (.pointer (some ⟨b, 0, none⟩)) 84
  row : w'.heap[v2]? = some (.cells #[r.a.val, r.b.val] 45 (0, 0))
  by_ : Held w' v3 (.slice AD n cD) 43
  own : Own w' w.heap.size 5 AD n cD D
  keep : Keep w w'
theorem LeftC.later {w w1 w2 : World} {b n v1 v2 v3 cD : Nat} {r : PairV} {D : List Nat} {AD : Option Addr} (h : LeftC w w1 b n r D v1 v2 v3 AD cD) (k : Keep w1 w2) : LeftC w w2 b n r D v1 v2 v3 AD cD :=
  ⟨h.basis.keep k, (k.block v2 (Array.getElem?_eq_some_iff.1 h.row).1).trans h.row, h.by_.keep k, h.own.keep k, h.keep.trans k⟩
/-- How much of each row goes in. -/
def byOf (g : Nat) (xs : List Nat) (ps : List PairV) : List Nat := ps.map fun p => xs.getD (vLead g p.a.xs).toNat 0
theorem byOf_len (g : Nat) (xs : List Nat) (ps : List PairV) : (byOf g xs ps).length = ps.length := List.length_map _
theorem byOf_at {g : Nat} {xs : List Nat} {ps : List PairV} {i : Nat} {p : PairV} (h : ps[i]? = some p) : (byOf g xs ps).getD i 0 = xs.getD (vLead g p.a.xs).toNat 0 := by
  rw [byOf, List.getD_eq_getElem?_getD, List.getElem?_map, h]; rfl
/-- What is being laid for it. -/
structure RedI (w wr : World) (q b n k : Nat) (r : PairV) (f : Nat → Nat) : Prop where
  base : w.heap.size = q
  basis : Held wr q (.pointer (some ⟨b, 0, none⟩)) 84
  row : wr.heap[q + 1]? = some (.cells #[r.a.val, r.b.val] 45 (0, 0))
  by_ : Held wr (q + 1 + 1 + 1) (.slice (some ⟨q + 1 + 1, 0, none⟩) n n) 43
  own : Own wr q 5 (some ⟨q + 1 + 1, 0, none⟩) n n (upto n f (fun _ => 0) k)
  keep : Keep w wr
theorem RedI.later {w w1 w2 : World} {q b n k : Nat} {r : PairV} {f : Nat → Nat} (h : RedI w w1 q b n k r f) (kp : Keep w1 w2) : RedI w w2 q b n k r f :=
  ⟨h.base, h.basis.keep kp, (kp.block _ (Array.getElem?_eq_some_iff.1 h.row).1).trans h.row, h.by_.keep kp, h.own.keep kp, h.keep.trans kp⟩
theorem RedI.start (w : World) (q b n : Nat) (r : PairV) (f : Nat → Nat) (hq : w.heap.size = q) (hn : n ≤ 1000) :
    RedI w ((((w.alloc (.cells #[.pointer (some ⟨b, 0, none⟩)] 84)).alloc (.cells #[r.a.val, r.b.val] 45)).alloc (.cells (madeCells #[.int .u8 0] n) 5)).alloc (.cells #[.slice (some ⟨q + 1 + 1, 0, none⟩) n n] 43)) q b n 0 r f := by
  subst hq
  have k2 : Keep (w.alloc (.cells #[.pointer (some ⟨b, 0, none⟩)] 84)) ((((w.alloc (.cells #[.pointer (some ⟨b, 0, none⟩)] 84)).alloc (.cells #[r.a.val, r.b.val] 45)).alloc (.cells (madeCells #[.int .u8 0] n) 5)).alloc (.cells #[.slice (some ⟨w.heap.size + 1 + 1, 0, none⟩) n n] 43)) := (((Keep.refl _).alloc _ _).alloc _ _).alloc _ _
  have o := Own.made ((w.alloc (.cells #[.pointer (some ⟨b, 0, none⟩)] 84)).alloc (.cells #[r.a.val, r.b.val] 45)) 5 n (by omega)
  rw [show ((w.alloc (.cells #[.pointer (some ⟨b, 0, none⟩)] 84)).alloc (.cells #[r.a.val, r.b.val] 45)).heap.size = w.heap.size + 1 + 1 by simp] at o
  refine ⟨rfl, (Held.new rfl _ _).keep k2, ?_, ?_, ?_, ((((Keep.refl w).alloc _ _).alloc _ _).alloc _ _).alloc _ _⟩
  · have k3 : Keep ((w.alloc (.cells #[.pointer (some ⟨b, 0, none⟩)] 84)).alloc (.cells #[r.a.val, r.b.val] 45)) ((((w.alloc (.cells #[.pointer (some ⟨b, 0, none⟩)] 84)).alloc (.cells #[r.a.val, r.b.val] 45)).alloc (.cells (madeCells #[.int .u8 0] n) 5)).alloc (.cells #[.slice (some ⟨w.heap.size + 1 + 1, 0, none⟩) n n] 43)) := ((Keep.refl _).alloc _ _).alloc _ _
    have h := heap_alloc_new (w.alloc (.cells #[.pointer (some ⟨b, 0, none⟩)] 84)) (.cells #[r.a.val, r.b.val] 45)
    rw [show (w.alloc (.cells #[.pointer (some ⟨b, 0, none⟩)] 84)).heap.size = w.heap.size + 1 by simp] at h
    exact (k3.block _ (by simp)).trans h
  · exact Held.new (by simp) _ _
  · rw [upto_zero, tab_zeros]
    exact ((o.alloc _).lower (by omega))
theorem RedI.set {w wr : World} {q b n k v : Nat} {r : PairV} {f : Nat → Nat} (h : RedI w wr q b n k r f) (hk : k < n) (hv : f k = v) (h2 : v < 256) : RedI w ((wr.setCell ⟨q + 1 + 1, k, none⟩ (.int .u8 (v : Int)))) q b n (k + 1) r f := by
  have ks : ∀ i, i ≠ q + 1 + 1 → (wr.setCell ⟨q + 1 + 1, k, none⟩ (.int .u8 (v : Int))).heap[i]? = wr.heap[i]? := fun i hi => Below.heap_setCell wr _ _ i hi
  refine ⟨h.base, (ks q (by omega)).trans h.basis, (ks _ (by omega)).trans h.row, (ks _ (by omega)).trans h.by_, ?_, h.keep.setCell (by rw [h.base]; show q ≤ q + 1 + 1; omega) _⟩
  have o := h.own.stored (i := k) h2
  rw [← hv, upto_set n f (fun _ => 0) k hk] at o
  rw [← hv]
  exact o
set_option maxRecDepth 100000 in
set_option maxHeartbeats 4000000 in
theorem breducer_any (b g n c ca : Nat) (A Ar : Option Addr) (xs : List Nat) (bv : RowV) (F : Nat → Prop) (ps : List PairV) (w : World)
    (hb : b < w.heap.size) (c2 : w.cell? ⟨b, 2, none⟩ = some (.slice A n c)) (hst : StIn w F A n ps) (hF : ∀ b, F b → b < w.heap.size) (hsz : ∀ p ∈ ps, p.a.n = g)
    (hlead : ∀ p ∈ ps, ∃ L : Nat, L < g ∧ vLead g p.a.xs = (L : Int)) (hx : Bytes w w.heap.size Ar g xs) (hn : n ≤ 255) (hg : g ≤ 255) :
    Calls Tryz.prog 74 #[.pointer (some ⟨b, 0, none⟩), PairV.agg ⟨⟨Ar, g, ca, xs⟩, bv⟩] w fun e w' => ∃ v1 v2 v3 AD cD,
      e = .returned (.func (.func 119) #[] #[.pointer (some ⟨v1, 0, none⟩), .pointer (some ⟨v2, 0, none⟩), .pointer (some ⟨v3, 0, none⟩)]) ∧ LeftC w w' b n ⟨⟨Ar, g, ca, xs⟩, bv⟩ (byOf g xs ps) v1 v2 v3 AD cD := by
  obtain ⟨Ab, nb, cb, xb⟩ := bv
  show Calls _ _ #[_, .agg #[.slice Ar g ca, .slice Ab nb cb]] _ _
  have HST := Lib.hid hst
  have HFF := Lib.hid hF
  have HX := Lib.hid hx
  have HSZ := Lib.hid hsz
  have HLD := Lib.hid hlead
  have mkb := fun w => run_make_bytes (P := Tryz.prog) Tryz.underlying43 info5 n (by omega) w
  have hc1 : (w.alloc (.cells #[.pointer (some ⟨b, 0, none⟩)] 84)).cell? ⟨b, 2, none⟩ = some (.slice A n c) := (World.cell?_alloc_past _ _ _ hb).trans c2
  have hc2 : ((w.alloc (.cells #[.pointer (some ⟨b, 0, none⟩)] 84)).alloc (.cells #[.slice Ar g ca, .slice Ab nb cb] 45)).cell? ⟨b, 2, none⟩ = some (.slice A n c) := (World.cell?_alloc_past _ _ _ (show b < _ by simp; omega)).trans hc1
  obtain ⟨q, hq⟩ : ∃ q, w.heap.size = q := ⟨_, rfl⟩
  have H0 := Lib.hid (RedI.start w q b n ⟨⟨Ar, g, ca, xs⟩, ⟨Ab, nb, cb, xb⟩⟩ (fun i => (byOf g xs ps).getD i 0) hq (by omega))
  have HXA := Lib.hid hx.all
  have HBY : Hid ((byOf g xs ps).length = n) := by show _ = _; rw [byOf_len, hst.1]
  clear hst hF hx hsz hlead
  go_enter Tryz.func74, Tryz.ntmps74
  go_upto_region 2 with fail
  clear hc1 hc2
  change Hid (RedI w ((((w.alloc (.cells #[.pointer (some ⟨b, 0, none⟩)] 84)).alloc (.cells #[.slice Ar g ca, .slice Ab nb cb] 45)).alloc (.cells (madeCells #[.int .u8 0] n) 5)).alloc (.cells #[.slice (some ⟨q + 1 + 1, 0, none⟩) n n] 43)) q b n 0 _ _) at H0
  generalize ((((w.alloc (.cells #[.pointer (some ⟨b, 0, none⟩)] 84)).alloc (.cells #[.slice Ar g ca, .slice Ab nb cb] 45)).alloc (.cells (madeCells #[.int .u8 0] n) 5)).alloc (.cells #[.slice (some ⟨q + 1 + 1, 0, none⟩) n n] 43)) = w4 at *
  have hc4 := (H0.out.keep.cell (p := ⟨b, 2, none⟩) hb).trans c2
  have HB := Lib.hid (And.intro hb c2)
  have k0 := H0.out.basis.cell
  clear c2 mkb hq
  go_wp2_with fail
  clear hc4
  go_loopw [19] (fun i wr => ∃ k : Nat, k ≤ n ∧ i = .int .i64 k ∧ RedI w wr q b n k ⟨⟨Ar, g, ca, xs⟩, ⟨Ab, nb, cb, xb⟩⟩ (fun i => (byOf g xs ps).getD i 0)) (fun i _ => n - (intOf i).toNat)
  case atStart => exact ⟨0, by omega, rfl, H0.out⟩
  case round =>
    obtain ⟨k, hk, rfl, hI⟩ := hrel
    have HI := Lib.hid hI
    have KI := Lib.hid hI.keep
    clear hI H0 k0
    by_cases hlt : k < n
    · obtain ⟨b2, o2, p, rfl, hb2, hp, hc1, hc2, hl2, _⟩ := (HST.out.keep KI.out).at_ hlt
      have hb3 := HFF.out b2 hb2
      obtain ⟨L, hLg, hL⟩ := HLD.out p (List.mem_of_getElem? hp)
      have hsz := HSZ.out p (List.mem_of_getElem? hp)
      have hby := hl2.bytes (B := w.heap.size) HFF.out
      have hv : (byOf g xs ps).getD k 0 = xs.getD L 0 := by rw [byOf_at hp, hL]; rfl
      obtain ⟨bx, ox, rfl, hbx, hcx⟩ := (HX.out.keep (Nat.le_refl _) KI.out).at_ hLg
      obtain ⟨v, hv2⟩ : ∃ v, xs.getD L 0 = v := ⟨_, rfl⟩
      have hvb : v < 256 := by rw [← hv2]; exact HXA.out.getD L
      rw [hv2] at hcx hv
      have HVB := Lib.hid (And.intro hvb hv)
      obtain ⟨⟨pA, pn, pc, px⟩, ⟨sA, sn, sc, sx⟩⟩ := p
      obtain rfl : pn = g := hsz
      have e1 : (0 : Int) ≤ (k : Int) := Int.natCast_nonneg _
      have e2 : (k : Int) < (n : Int) := by omega
      have e3 : (0 : Int) ≤ (L : Int) := Int.natCast_nonneg _
      have e4 : (L : Int) < (pn : Int) := by omega
      have HCX := Lib.hid hcx
      have HBX := Lib.hid hbx
      have HLV := Lib.hid hL
      have HPY := Lib.hid hby
      clear hby hl2 hp hb2 hv hvb hv2 hL hcx hbx
      go_upto_region 5 with fail
      have hkw : Keep wr (wr.alloc (.cells #[.slice pA pn pc, .slice sA sn sc] 45)) := (Keep.refl wr).alloc _ _
      have hnew := heap_alloc_new wr (.cells #[.slice pA pn pc, .slice sA sn sc] 45)
      generalize (wr.alloc (.cells #[.slice pA pn pc, .slice sA sn sc] 45)) = w5 at *
      have H5 := Lib.hid (HI.out.later hkw)
      have c5 := H5.out.by_.cell
      have c6 : w5.cell? ⟨q + 1, 0, none⟩ = some (.slice (some ⟨bx, ox, none⟩) pn ca) := cell_of_row _ _ _ _ _ _ H5.out.row
      have c7 : w5.cell? ⟨wr.heap.size, 0, none⟩ = some (.slice pA pn pc) := cell_of_row _ _ _ _ _ _ hnew
      have c8 : w5.cell? ⟨bx, ox + L, none⟩ = some (.int .u8 (v : Int)) := (hkw.cell (p := ⟨bx, ox + L, none⟩) (by have := HBX.out; have := KI.out.size; show bx < _; omega)).trans HCX.out
      have c9 := H5.out.own.cell hlt
      have f9 := H5.out.own.frozen k
      have K5 := Lib.hid hkw
      have C0 : Hid (Calls Tryz.prog 76 #[.slice pA pn pc] w5.drew fun e w' => e = .returned (.int .i64 (L : Int)) ∧ w' = w5.drew) := by
        have h := vlead_eq _ pn pc pA px w5.drew ((HPY.out.below (Below.mono hkw KI.out.size)).drew) (by omega)
        rw [HLV.out] at h
        exact h.mono fun e w' h => ⟨h.1, h.2.symm⟩
      clear hkw hnew
      generalize (upto n (fun i => (byOf pn xs ps).getD i 0) (fun x => 0) k).getD k 0 = z at *
      refine wp_region_still_tail (w := w5) 10 (by kernel_rfl) (by kernel_rfl) ?_
      simp only [List.take_succ_cons, List.take_zero, List.drop_succ_cons, List.drop_zero]
      change wpStill _ _ (World.drew w5) _ _ _
      iterate 6 still_step
      still_call C0.out
      iterate 3 still_step
      refine wpStill_nil ?_
      change wpList _ _ _ _ _ (World.drew w5)
      go_wp2_with fail
      go_roundw
      case rel => exact ⟨k + 1, by omega, by go_num, (H5.out.later (Keep.drew (Keep.refl _))).set hlt HVB.out.2 HVB.out.1⟩
      case measure => simp [intOf]; omega
    · obtain rfl : k = n := by omega
      have HO := Lib.hid HI.out.own
      go_wp2_with fail
      go_ret
      refine ⟨q, q + 1, q + 1 + 1 + 1, some ⟨q + 1 + 1, 0, none⟩, k, rfl, HI.out.basis, HI.out.row, HI.out.by_, ?_, KI.out⟩
      have o := HI.out.own
      have h := tab_self (byOf g xs ps)
      rw [HBY.out] at h
      rw [upto_all, h] at o
      rw [HI.out.base]; exact o
set_option maxRecDepth 100000 in
theorem bleft_any (f : Nat) (sel : PairV → RowV) (eg : ∀ args w, (callFunc f args).run Tryz.prog w = .ok (.enter f args) w) (b n c N cD cr v1 v2 v3 : Nat) (A AD Ar : Option Addr) (xr : List Nat) (r : PairV) (F : Nat → Prop) (ps : List PairV) (D : List Nat) (w0 w : World)
    (hC : LeftC w0 w b n r D v1 v2 v3 AD cD)
    (hfr : ∀ w1, Calls Tryz.prog f #[r.agg] w1 fun e w' => e = .returned (.slice Ar N cr) ∧ Keep w1 w')
    (hfp : ∀ p ∈ ps, ∀ w1, Calls Tryz.prog f #[p.agg] w1 fun e w' => e = .returned (.slice (sel p).A N (sel p).c) ∧ Keep w1 w')
    (hb : b < w.heap.size) (c2 : w.cell? ⟨b, 2, none⟩ = some (.slice A n c)) (hst : StIn w F A n ps) (hF : ∀ b, F b → b < w.heap.size) (hr : Bytes w w.heap.size Ar N xr) (hrc : N ≤ cr)
    (hrow : ∀ p ∈ ps, Bytes w w.heap.size (sel p).A N (sel p).xs ∧ N ≤ (sel p).c) (hn : n ≤ 255) (hN : N ≤ 65535) :
    Calls Tryz.prog 119 #[.func (.func f) #[] #[], .pointer (some ⟨v1, 0, none⟩), .pointer (some ⟨v2, 0, none⟩), .pointer (some ⟨v3, 0, none⟩)] w fun e w' => ∃ A' c', e = .returned (.slice A' N c') ∧ Own w' w.heap.size 5 A' N c' (plusN N xr (ps.map fun p => (sel p).xs) D n) ∧ Keep w w' := by
  have h := bplus_any f sel eg b n c N cD cr A AD Ar xr r F ps D w hfr hfp hb c2 hst hF hr hrc hrow hC.own.bytes hn hN
  have k1 := hC.basis.cell
  have k3 := hC.by_.cell
  have k2 : w.cell? ⟨v2, 0, none⟩ = some r.a.val := cell_of_row _ _ _ _ _ _ hC.row
  have k4 : w.cell? ⟨v2, 1, none⟩ = some r.b.val := cell_of_row _ _ _ _ _ _ hC.row
  obtain ⟨⟨A1, n1, c1, x1⟩, ⟨A2, n2, c2', x2⟩⟩ := r
  have H : Hid (Calls Tryz.prog 120 #[.pointer (some ⟨b, 0, none⟩), .agg #[.slice A1 n1 c1, .slice A2 n2 c2'], .slice AD n cD, .func (.func f) #[] #[]] w fun e w' => ∃ A' c', e = .returned (.slice A' N c') ∧ Own w' w.heap.size 5 A' N c' (plusN N xr (ps.map fun p => (sel p).xs) D n) ∧ Keep w w') := h
  change w.cell? ⟨v2, 0, none⟩ = some (.slice A1 n1 c1) at k2
  change w.cell? ⟨v2, 1, none⟩ = some (.slice A2 n2 c2') at k4
  clear h hC hfr hfp hst hF hr hrc hrow c2
  go_enter Tryz.func119, Tryz.ntmps119
  go_wp2_with fail
  refine H.out.mono ?_
  rintro e w1 ⟨A', c', rfl, o, k⟩
  have O := Lib.hid (And.intro o k)
  clear o k
  go_wp2_with fail
  go_ret
  exact ⟨A', c', rfl, O.out.1, O.out.2⟩
end Go.Proofs.YtgelalbmhllccaaGreat
/- The landed code of layer 7: is a row of the span? -/
namespace Go.Proofs.YtgelalbmhllccaaGreat
open Go.RowKit Lin
set_option linter.unusedVariables false
set_option linter.unusedSimpArgs false
theorem vLeadTo_take (v : List Nat) (g : Nat) : ∀ k, k ≤ g → vLeadTo (v.take g) k = vLeadTo v k
  | 0, _ => rfl
  | k + 1, h => by rw [vLeadTo, vLeadTo, vLeadTo_take v g k (by omega), getD_take (by omega)]
theorem vLead_take (v : List Nat) (g : Nat) : vLead g (v.take g) = vLead g v := by rw [vLead, vLead, vLeadTo_take v g g (Nat.le_refl _)]
section
variable {w : World} {F : Nat → Prop} {b g s n c : Nat} {B : List (List Nat)} {A : Option Addr} {ps : List PairV}
theorem BasA.lens (h : BasA w F b g s B A n c ps) {p : PairV} (hp : p ∈ ps) : p.a.xs.length = g ∧ p.b.xs.length = s := by
  have h1 := h.st.2.1 p hp
  have h2 := h.size p hp
  exact ⟨h1.1.1.trans h2.1, h1.2.1.trans h2.2⟩
theorem BasA.sides (h : BasA w F b g s B A n c ps) : B.map (List.take g) = ps.map (fun p => p.a.xs) ∧ B.map (List.drop g) = ps.map (fun p => p.b.xs) := by
  have hl := fun p hp => (h.lens (p := p) hp).1
  rw [← h.xs, List.map_map, List.map_map]
  exact ⟨List.map_congr_left fun p hp => by
    show (p.a.xs ++ p.b.xs).take g = _
    rw [← hl p hp]; simp, List.map_congr_left fun p hp => by
    show (p.a.xs ++ p.b.xs).drop g = _
    rw [← hl p hp]; simp⟩
theorem BasA.row (h : BasA w F b g s B A n c ps) {i : Nat} {p : PairV} (hp : ps[i]? = some p) : B.getD i [] = p.a.xs ++ p.b.xs ∧ (B.getD i []).take g = p.a.xs := by
  have e : B.getD i [] = p.a.xs ++ p.b.xs := by rw [← h.xs, List.getD_eq_getElem?_getD, List.getElem?_map, hp]; rfl
  refine ⟨e, ?_⟩
  rw [e, ← (h.lens (List.mem_of_getElem? hp)).1]; simp
theorem BasA.at_lt (h : BasA w F b g s B A n c ps) {i : Nat} {p : PairV} (hp : ps[i]? = some p) : i < B.length := by
  rcases Nat.lt_or_ge i ps.length with h1 | h1
  · rw [h.len, ← h.st.1]; exact h1
  · rw [List.getElem?_eq_none h1] at hp; cases hp
theorem BasA.lead (h : BasA w F b g s B A n c ps) : ∀ p ∈ ps, ∃ L : Nat, L < g ∧ vLead g p.a.xs = (L : Int) := fun p hp => by
  obtain ⟨l, hr, hl⟩ := h.bas.leads
  obtain ⟨i, hi⟩ := List.getElem?_of_mem hp
  have hB := h.at_lt hi
  have e := lead_col h.bas hr hB (hl i hB)
  rw [(h.row hi).2] at e
  exact ⟨l i, hl i hB, e⟩
theorem BasA.left (h : BasA w F b g s B A n c ps) {xs ys : List Nat} (hx : xs.length = g) (hy : ys.length = s) (hxa : AllB xs) (hya : AllB ys) :
    plusN g xs (ps.map fun p => p.a.xs) (byOf g xs ps) n = (leftB (g + s) B (xs ++ ys)).take g ∧ plusN s ys (ps.map fun p => p.b.xs) (byOf g xs ps) n = (leftB (g + s) B (xs ++ ys)).drop g := by
  obtain ⟨l, hr, hl⟩ := h.bas.leads
  have hlen : (xs ++ ys).length = g + s := by rw [List.length_append, hx, hy]
  have e := leftB_eq h.bas hr hlen (hxa.append hya)
  have hD : (tab B.length fun i => (xs ++ ys).getD (l i) 0) = byOf g xs ps := list_ext (by rw [tab_length, byOf_len, h.len, h.st.1]) fun i hi => by
    rw [tab_length] at hi
    have hp := List.getElem?_eq_getElem (l := ps) (i := i) (by rw [h.st.1, ← h.len]; exact hi)
    have e := lead_col h.bas hr hi (hl i hi)
    rw [(h.row hp).2] at e
    rw [tab_getD, if_pos hi, byOf_at hp, e, Int.toNat_natCast, List.getD_eq_getElem?_getD, List.getElem?_append_left (by rw [hx]; exact hl i hi), ← List.getD_eq_getElem?_getD]
  rw [hD] at e
  rw [e, plusN_take, plusN_drop, h.sides.1, h.sides.2, h.len]
  constructor
  · congr 1
    rw [← hx]; simp
  · congr 1
    rw [← hx]; simp
theorem BasA.inB_iff (h : BasA w F b g s B A n c ps) {xs ys : List Nat} (hx : xs.length = g) (hy : ys.length = s) (hxa : AllB xs) (hya : AllB ys) : inB g s B (xs ++ ys) ↔ vLead g (plusN g xs (ps.map fun p => p.a.xs) (byOf g xs ps) n) < 0 := by
  rw [(h.left hx hy hxa hya).1, vLead_take]; exact Iff.rfl
theorem BasA.colA (h : BasA w F b g s B A n c ps) : ∀ p ∈ ps, Bytes w w.heap.size p.a.A g p.a.xs ∧ g ≤ p.a.c := fun p hp => by
  have h1 := (h.st.2.1 p hp).1
  have h2 := (h.size p hp).1
  have h3 := h1.bytes h.lt
  rw [h2] at h3
  exact ⟨h3, by have := h1.2.2.1; omega⟩
theorem BasA.colB (h : BasA w F b g s B A n c ps) : ∀ p ∈ ps, Bytes w w.heap.size p.b.A s p.b.xs ∧ s ≤ p.b.c := fun p hp => by
  have h1 := (h.st.2.1 p hp).2
  have h2 := (h.size p hp).2
  have h3 := h1.bytes h.lt
  rw [h2] at h3
  exact ⟨h3, by have := h1.2.2.1; omega⟩
theorem BasA.cofA (h : BasA w F b g s B A n c ps) : ∀ p ∈ ps, ∀ w1, Calls Tryz.prog 75 #[p.agg] w1 fun e w' => e = .returned (.slice p.a.A g p.a.c) ∧ Keep w1 w' := fun p hp w1 => by
  have := bcoefs_any p w1
  rwa [(h.size p hp).1] at this
theorem BasA.cofB (h : BasA w F b g s B A n c ps) : ∀ p ∈ ps, ∀ w1, Calls Tryz.prog 80 #[p.agg] w1 fun e w' => e = .returned (.slice p.b.A s p.b.c) ∧ Keep w1 w' := fun p hp w1 => by
  have := bpayload_any p w1
  rwa [(h.size p hp).2] at this
/-- What tells what is left. -/
theorem breducer_bas (h : BasA w F b g s B A n c ps) (ca : Nat) (Ar : Option Addr) (xs : List Nat) (bv : RowV) (hx : Bytes w w.heap.size Ar g xs) :
    Calls Tryz.prog 74 #[.pointer (some ⟨b, 0, none⟩), PairV.agg ⟨⟨Ar, g, ca, xs⟩, bv⟩] w fun e w' => ∃ v1 v2 v3 AD cD,
      e = .returned (.func (.func 119) #[] #[.pointer (some ⟨v1, 0, none⟩), .pointer (some ⟨v2, 0, none⟩), .pointer (some ⟨v3, 0, none⟩)]) ∧ LeftC w w' b n ⟨⟨Ar, g, ca, xs⟩, bv⟩ (byOf g xs ps) v1 v2 v3 AD cD :=
  breducer_any b g n c ca A Ar xs bv F ps w (h.lt b h.at_) h.c2 h.st h.lt (fun p hp => (h.size p hp).1) h.lead hx (by have := h.n_le; have := h.g2; omega) h.g2
/-- One side of what is left: coefficients. -/
theorem bleft_a (h : BasA w F b g s B A n c ps) {w0 : World} {D : List Nat} {r : PairV} {v1 v2 v3 cD : Nat} {AD : Option Addr} (hC : LeftC w0 w b n r D v1 v2 v3 AD cD) (hr : Bytes w w.heap.size r.a.A g r.a.xs) (hrn : r.a.n = g) (hrc : g ≤ r.a.c) :
    Calls Tryz.prog 119 #[.func (.func 75) #[] #[], .pointer (some ⟨v1, 0, none⟩), .pointer (some ⟨v2, 0, none⟩), .pointer (some ⟨v3, 0, none⟩)] w fun e w' => ∃ A' c', e = .returned (.slice A' g c') ∧ Own w' w.heap.size 5 A' g c' (plusN g r.a.xs (ps.map fun p => p.a.xs) D n) ∧ Keep w w' :=
  bleft_any 75 (fun p => p.a) (enters_at Tryz.func75 (by kernel_rfl) rfl) b n c g cD r.a.c v1 v2 v3 A AD r.a.A r.a.xs r F ps D w0 w hC
    (fun w1 => by have := bcoefs_any r w1; rwa [hrn] at this) h.cofA (h.lt b h.at_) h.c2 h.st h.lt hr hrc h.colA (by have := h.n_le; have := h.g2; omega) (by have := h.g2; omega)
/-- .. payload. -/
theorem bleft_b (h : BasA w F b g s B A n c ps) {w0 : World} {D : List Nat} {r : PairV} {v1 v2 v3 cD : Nat} {AD : Option Addr} (hC : LeftC w0 w b n r D v1 v2 v3 AD cD) (hr : Bytes w w.heap.size r.b.A s r.b.xs) (hrn : r.b.n = s) (hrc : s ≤ r.b.c) :
    Calls Tryz.prog 119 #[.func (.func 80) #[] #[], .pointer (some ⟨v1, 0, none⟩), .pointer (some ⟨v2, 0, none⟩), .pointer (some ⟨v3, 0, none⟩)] w fun e w' => ∃ A' c', e = .returned (.slice A' s c') ∧ Own w' w.heap.size 5 A' s c' (plusN s r.b.xs (ps.map fun p => p.b.xs) D n) ∧ Keep w w' :=
  bleft_any 80 (fun p => p.b) (enters_at Tryz.func80 (by kernel_rfl) rfl) b n c s cD r.b.c v1 v2 v3 A AD r.b.A r.b.xs r F ps D w0 w hC
    (fun w1 => by have := bpayload_any r w1; rwa [hrn] at this) h.cofB (h.lt b h.at_) h.c2 h.st h.lt hr hrc h.colB (by have := h.n_le; have := h.g2; omega) h.s2
end
section
variable {w : World} {F : Nat → Prop} {b g s : Nat} {B : List (List Nat)}
end
end Go.Proofs.YtgelalbmhllccaaGreat
/- The landed code of layer 7: rows, each as often as its number says. -/
namespace Go.Proofs.YtgelalbmhllccaaGreat
open Go.RowKit Lin
set_option linter.unusedVariables false
set_option linter.unusedSimpArgs false
theorem three_allocs (w : World) (a1 a2 a3 : Array Value) (t1 t2 t3 : TypeId) :
    (((w.alloc (.cells a1 t1)).alloc (.cells a2 t2)).alloc (.cells a3 t3)).drew.heap[w.heap.size]? = some (.cells a1 t1) ∧ (((w.alloc (.cells a1 t1)).alloc (.cells a2 t2)).alloc (.cells a3 t3)).drew.heap[w.heap.size + 1]? = some (.cells a2 t2) ∧
    (((w.alloc (.cells a1 t1)).alloc (.cells a2 t2)).alloc (.cells a3 t3)).drew.heap[w.heap.size + 1 + 1]? = some (.cells a3 t3) ∧ Keep w (((w.alloc (.cells a1 t1)).alloc (.cells a2 t2)).alloc (.cells a3 t3)).drew := by
  have h1 := heap_alloc_new w (.cells a1 t1)
  have h2 := heap_alloc_new (w.alloc (.cells a1 t1)) (.cells a2 t2)
  have h3 := heap_alloc_new ((w.alloc (.cells a1 t1)).alloc (.cells a2 t2)) (.cells a3 t3)
  have k2 : Keep (w.alloc (.cells a1 t1)) (((w.alloc (.cells a1 t1)).alloc (.cells a2 t2)).alloc (.cells a3 t3)) := ((Keep.refl _).alloc _ _).alloc _ _
  have k3 : Keep ((w.alloc (.cells a1 t1)).alloc (.cells a2 t2)) (((w.alloc (.cells a1 t1)).alloc (.cells a2 t2)).alloc (.cells a3 t3)) := (Keep.refl _).alloc _ _
  have e1 : (w.alloc (.cells a1 t1)).heap.size = w.heap.size + 1 := by simp
  have e2 : ((w.alloc (.cells a1 t1)).alloc (.cells a2 t2)).heap.size = w.heap.size + 1 + 1 := by simp
  rw [e1] at h2
  rw [e2] at h3
  exact ⟨(k2.block _ (by omega)).trans h1, (k3.block _ (by omega)).trans h2, h3, ((((Keep.refl w).alloc _ _).alloc _ _).alloc _ _).drew⟩
theorem Own.made_at {w : World} {i base n : Nat} {e : TypeId} (hh : w.heap[i]? = some (.cells (madeCells #[.int .u8 0] n) e (0, 0))) (hb : base ≤ i) (hn : n ≤ 140737488355328) : Own w base e (some ⟨i, 0, none⟩) n n (List.replicate n 0) := by
  refine ⟨⟨by simp [u8s_length], Or.inr ⟨i, n, madeCells #[.int .u8 0] n, rfl, hb, hh, Nat.le_refl _, by unfold maxLen; omega, by rw [size_madeCells]; simp, ?_⟩⟩, AllB.zeros n⟩
  rw [toList_madeCells_one, ← u8s_zeros, List.take_of_length_le (by simp [u8s_length])]
theorem bset {w : World} {g i : Nat} {cs : Array Value} {t : TypeId} (h : w.heap[g]? = some (.cells cs t (0, 0))) (v : Value) : (w.setCell ⟨g, i, none⟩ v).heap[g]? = some (.cells (cs.setIfInBounds i v) t (0, 0)) := by
  simp [World.setCell, Array.getElem?_modify, h]
section
variable {w : World} {F : Nat → Prop} {b g s : Nat} {B : List (List Nat)}
/-- Two sides of noughts, and a row of them. -/
structure Nought (w w' : World) (q g s : Nat) (A2 A3 : Option Addr) : Prop where
  ge : w.heap.size ≤ q
  row : w'.heap[q]? = some (.cells #[.slice A2 g g, .slice A3 s s] 45 (0, 0))
  a : Own w' w.heap.size 5 A2 g g (List.replicate g 0)
  b : Own w' w.heap.size 5 A3 s s (List.replicate s 0)
  keep : Keep w w'
end
end Go.Proofs.YtgelalbmhllccaaGreat
/- The landed code of layer 7: a row cleared at a new row's lead; where the new one is to stand. -/
namespace Go.Proofs.YtgelalbmhllccaaGreat
open Go.RowKit Lin
set_option linter.unusedVariables false
set_option linter.unusedSimpArgs false
theorem three_allocs' (w : World) (a1 a2 a3 : Array Value) (t1 t2 t3 : TypeId) :
    (((w.alloc (.cells a1 t1)).alloc (.cells a2 t2)).alloc (.cells a3 t3)).heap[w.heap.size]? = some (.cells a1 t1) ∧ (((w.alloc (.cells a1 t1)).alloc (.cells a2 t2)).alloc (.cells a3 t3)).heap[w.heap.size + 1]? = some (.cells a2 t2) ∧
    (((w.alloc (.cells a1 t1)).alloc (.cells a2 t2)).alloc (.cells a3 t3)).heap[w.heap.size + 1 + 1]? = some (.cells a3 t3) ∧ Keep w (((w.alloc (.cells a1 t1)).alloc (.cells a2 t2)).alloc (.cells a3 t3)) := by
  have h := three_allocs w a1 a2 a3 t1 t2 t3
  exact ⟨h.1, h.2.1, h.2.2.1, (((Keep.refl w).alloc _ _).alloc _ _).alloc _ _⟩
/-- What is told of a row cleared. -/
structure ClearR (w w' : World) (F : Nat → Prop) (g s : Nat) (xs ys : List Nat) (p : PairV) : Prop where
  an : p.a.n = g
  bn : p.b.n = s
  a : LiesIn w' (fun b => F b ∨ w.heap.size ≤ b ∧ b < w'.heap.size) p.a
  b : LiesIn w' (fun b => F b ∨ w.heap.size ≤ b ∧ b < w'.heap.size) p.b
  ax : p.a.xs = xs
  bx : p.b.xs = ys
  keep : Keep w w'
set_option maxRecDepth 100000 in
set_option maxHeartbeats 2000000 in
theorem bcleared_any (g s L : Nat) (p q : PairV) (F : Nat → Prop) (w : World) (hp : LiesIn w F p.a ∧ LiesIn w F p.b ∧ p.a.n = g ∧ p.b.n = s) (hq : Bytes w w.heap.size q.a.A g q.a.xs ∧ Bytes w w.heap.size q.b.A s q.b.xs ∧ q.a.n = g ∧ q.b.n = s) (hF : ∀ b, F b → b < w.heap.size) (hL : L < g) (hg : g ≤ 255) (hs : s ≤ 65535) :
    Calls Tryz.prog 124 #[p.agg, q.agg, .int .i64 (L : Int)] w fun e w' => ∃ p', e = .returned p'.agg ∧ ClearR w w' F g s (vAddS g p.a.xs q.a.xs (p.a.xs.getD L 0)) (vAddS s p.b.xs q.b.xs (p.a.xs.getD L 0)) p' := by
  obtain ⟨⟨A1, n1, c1, x1⟩, ⟨A2, n2, c2, x2⟩⟩ := p
  obtain ⟨⟨A3, n3, c3, x3⟩, ⟨A4, n4, c4, x4⟩⟩ := q
  obtain ⟨p1, p2, rfl, rfl⟩ := hp
  obtain ⟨q1, q2, q3, q4⟩ := hq
  simp only at q1 q2 q3 q4 hL hg hs
  obtain rfl : n3 = n1 := q3
  obtain rfl : n4 = n2 := q4
  show Calls _ _ #[.agg #[.slice A1 n3 c1, .slice A2 n4 c2], .agg #[.slice A3 n3 c3, .slice A4 n4 c4], _] _ fun e w' => ∃ p', e = .returned p'.agg ∧ ClearR w w' F n3 n4 (vAddS n3 x1 x3 (x1.getD L 0)) (vAddS n4 x2 x4 (x1.getD L 0)) p'
  have B1 : Bytes w w.heap.size A1 n3 x1 := p1.bytes hF
  have B2 : Bytes w w.heap.size A2 n4 x2 := p2.bytes hF
  obtain ⟨⟨q0, hq0⟩⟩ : Nonempty (∃ q0, w.heap.size = q0) := ⟨_, rfl⟩
  have T := three_allocs' w #[.slice A1 n3 c1, .slice A2 n4 c2] #[.slice A3 n3 c3, .slice A4 n4 c4] #[.slice none 0 0, .slice none 0 0] 45 45 45
  rw [hq0] at T
  obtain ⟨b5, o5, rfl, hb5, hc5⟩ := B1.at_ hL
  obtain ⟨c, hc⟩ : ∃ c, x1.getD L 0 = c := ⟨_, rfl⟩
  rw [hc] at hc5 ⊢
  have hcb : c < 256 := by rw [← hc]; exact B1.all.getD L
  have d1 : (0 : Int) ≤ (L : Int) := Int.natCast_nonneg _
  have d2 : (L : Int) < (n3 : Int) := by omega
  have HB := Lib.hid (And.intro B1 (And.intro B2 (And.intro q1 q2)))
  have HP := Lib.hid (And.intro p1 p2)
  have HT := Lib.hid T
  have HC5 := Lib.hid (And.intro hb5 hc5)
  have HQ0 := Lib.hid hq0
  clear B1 B2 p1 p2 q1 q2 T hb5 hc5 hc
  go_enter Tryz.func124, Tryz.ntmps124
  go_upto_region 1 with fail
  clear hq0
  generalize (((w.alloc (.cells #[.slice (some ⟨b5, o5, none⟩) n3 c1, .slice A2 n4 c2] 45)).alloc (.cells #[.slice A3 n3 c3, .slice A4 n4 c4] 45)).alloc (.cells #[.slice none 0 0, .slice none 0 0] 45)) = w3 at *
  have k0 : w3.cell? ⟨q0, 0, none⟩ = some (.slice (some ⟨b5, o5, none⟩) n3 c1) := cell_of_row _ _ _ _ _ _ HT.out.1
  have k1 : w3.cell? ⟨q0, 1, none⟩ = some (.slice A2 n4 c2) := cell_of_row _ _ _ _ _ _ HT.out.1
  have k2 : w3.cell? ⟨q0 + 1, 0, none⟩ = some (.slice A3 n3 c3) := cell_of_row _ _ _ _ _ _ HT.out.2.1
  have k3 : w3.cell? ⟨q0 + 1, 1, none⟩ = some (.slice A4 n4 c4) := cell_of_row _ _ _ _ _ _ HT.out.2.1
  have k4 : w3.cell? ⟨b5, o5 + L, none⟩ = some (.int .u8 (c : Int)) := (HT.out.2.2.2.cell (p := ⟨b5, o5 + L, none⟩) HC5.out.1).trans HC5.out.2
  have z0 : w3.cell? ⟨q0 + 1 + 1, 0, none⟩ = some (.slice none 0 0) := cell_of_row _ _ _ _ _ _ HT.out.2.2.1
  have z1 : w3.cell? ⟨q0 + 1 + 1, 1, none⟩ = some (.slice none 0 0) := cell_of_row _ _ _ _ _ _ HT.out.2.2.1
  have f0 : w3.frozen? ⟨q0 + 1 + 1, 0, none⟩ = false := by simp [World.frozen?, HT.out.2.2.1]
  have f1 : w3.frozen? ⟨q0 + 1 + 1, 1, none⟩ = false := by simp [World.frozen?, HT.out.2.2.1]
  by_cases hz : c = 0
  · subst hz
    go_wp2_with fail
    have hb := bset (i := 1) (bset (i := 0) HT.out.2.2.1 (.slice (some ⟨b5, o5, none⟩) n3 c1)) (.slice A2 n4 c2)
    have K : Keep w ((w3.setCell ⟨q0 + 1 + 1, 0, none⟩ (.slice (some ⟨b5, o5, none⟩) n3 c1)).setCell ⟨q0 + 1 + 1, 1, none⟩ (.slice A2 n4 c2)) := (HT.out.2.2.2.setCell (a := ⟨q0 + 1 + 1, 0, none⟩) (by rw [HQ0.out]; show q0 ≤ q0 + 1 + 1; omega) _).setCell (a := ⟨q0 + 1 + 1, 1, none⟩) (by rw [HQ0.out]; show q0 ≤ q0 + 1 + 1; omega) _
    refine bodyPost_ret (v := .agg #[.slice (some ⟨b5, o5, none⟩) n3 c1, .slice A2 n4 c2]) ?_ rfl ⟨⟨⟨some ⟨b5, o5, none⟩, n3, c1, x1⟩, ⟨A2, n4, c2, x2⟩⟩, rfl, rfl, rfl, ?_, ?_, ?_, ?_, K⟩
    · exact results_cell_row (p := 6) (ty := 45) rfl _ _ (q0 + 1 + 1) 45 _ (0, 0) _ rfl hb Tryz.underlying45 rfl infoRowSize
    · exact (HP.out.1.turned (Turned.of_keep (F := fun _ => False) K) fun _ _ e => e).mono fun b hb => Or.inl hb
    · exact (HP.out.2.turned (Turned.of_keep (F := fun _ => False) K) fun _ _ e => e).mono fun b hb => Or.inl hb
    · exact (vAddS_none x3 HB.out.1.length HB.out.2.2.1.all).symm
    · exact (vAddS_none x4 HB.out.2.1.length HB.out.2.2.2.all).symm
  · have b1 : ((c : Int) == 0) = false := beq_eq_false_iff_ne.2 (by omega)
    clear hz
    go_wp2_with fail
    refine (vaddS_any _ _ n3 _ _ c _ _ x1 x3 _ (HB.out.1.keep (Nat.le_refl _) HT.out.2.2.2) (HB.out.2.2.1.keep (Nat.le_refl _) HT.out.2.2.2) HT.out.2.2.2.size HT.out.2.2.2.size (by omega) hcb).mono ?_
    rintro e w4 ⟨A5, n5, c5, rfl, o5', k5⟩
    obtain rfl : n5 = n3 := by rw [← o5'.length]; exact tab_length _ _
    have K4 := Lib.hid (HT.out.2.2.2.trans k5)
    have HT4 : Hid (w4.heap[q0]? = some (.cells #[.slice (some ⟨b5, o5, none⟩) n5 c1, .slice A2 n4 c2] 45 (0, 0)) ∧ w4.heap[q0 + 1]? = some (.cells #[.slice A3 n5 c3, .slice A4 n4 c4] 45 (0, 0)) ∧ w4.heap[q0 + 1 + 1]? = some (.cells #[.slice none 0 0, .slice none 0 0] 45 (0, 0))) :=
      ⟨(k5.block _ (Array.getElem?_eq_some_iff.1 HT.out.1).1).trans HT.out.1, (k5.block _ (Array.getElem?_eq_some_iff.1 HT.out.2.1).1).trans HT.out.2.1, (k5.block _ (Array.getElem?_eq_some_iff.1 HT.out.2.2.1).1).trans HT.out.2.2.1⟩
    have O5 := Lib.hid o5'
    have k1 : w4.cell? ⟨q0, 1, none⟩ = some (.slice A2 n4 c2) := cell_of_row _ _ _ _ _ _ HT4.out.1
    have k3 : w4.cell? ⟨q0 + 1, 1, none⟩ = some (.slice A4 n4 c4) := cell_of_row _ _ _ _ _ _ HT4.out.2.1
    have H3 : Hid (q0 + 1 + 1 < w3.heap.size) := (Array.getElem?_eq_some_iff.1 HT.out.2.2.1).1
    clear o5' k5 k0 k2 k4 z0 z1 f0 f1
    go_wp2_with fail
    refine (vaddS_any _ _ n4 _ _ c _ _ x2 x4 _ (HB.out.2.1.keep (Nat.le_refl _) K4.out) (HB.out.2.2.2.keep (Nat.le_refl _) K4.out) K4.out.size K4.out.size (by omega) hcb).mono ?_
    rintro e w5 ⟨A6, n6, c6, rfl, o6', k6⟩
    obtain rfl : n6 = n4 := by rw [← o6'.length]; exact tab_length _ _
    have K5 := Lib.hid (K4.out.trans k6)
    have HT5 : Hid (w5.heap[q0 + 1 + 1]? = some (.cells #[.slice none 0 0, .slice none 0 0] 45 (0, 0))) := (k6.block _ (Array.getElem?_eq_some_iff.1 HT4.out.2.2).1).trans HT4.out.2.2
    have O6 := Lib.hid o6'
    have O5' := Lib.hid (O5.out.keep k6)
    have H4 : Hid (q0 + 1 + 1 < w4.heap.size) := (Array.getElem?_eq_some_iff.1 HT4.out.2.2).1
    have z0 : w5.cell? ⟨q0 + 1 + 1, 0, none⟩ = some (.slice none 0 0) := cell_of_row _ _ _ _ _ _ HT5.out
    have z1 : w5.cell? ⟨q0 + 1 + 1, 1, none⟩ = some (.slice none 0 0) := cell_of_row _ _ _ _ _ _ HT5.out
    have f0 : w5.frozen? ⟨q0 + 1 + 1, 0, none⟩ = false := by simp [World.frozen?, HT5.out]
    have f1 : w5.frozen? ⟨q0 + 1 + 1, 1, none⟩ = false := by simp [World.frozen?, HT5.out]
    clear o6' k6 k1 k3
    go_wp2_with fail
    have hb := bset (i := 1) (bset (i := 0) HT5.out (.slice A5 n5 c5)) (.slice A6 n6 c6)
    have K : Keep w ((w5.setCell ⟨q0 + 1 + 1, 0, none⟩ (.slice A5 n5 c5)).setCell ⟨q0 + 1 + 1, 1, none⟩ (.slice A6 n6 c6)) := (K5.out.setCell (a := ⟨q0 + 1 + 1, 0, none⟩) (by rw [HQ0.out]; show q0 ≤ q0 + 1 + 1; omega) _).setCell (a := ⟨q0 + 1 + 1, 1, none⟩) (by rw [HQ0.out]; show q0 ≤ q0 + 1 + 1; omega) _
    have P5 := ((O5'.out.far (p := ⟨q0 + 1 + 1, 0, none⟩) (fun e => by have h1 := (O5'.out.1.lt _ e).1; have := H3.out; exact absurd h1 (by show ¬ _ ≤ q0 + 1 + 1; omega)) (.slice A5 n5 c5)).far (p := ⟨q0 + 1 + 1, 1, none⟩) (fun e => by have h1 := (O5'.out.1.lt _ e).1; have := H3.out; exact absurd h1 (by show ¬ _ ≤ q0 + 1 + 1; omega)) (.slice A6 n6 c6))
    have P6 := ((O6.out.far (p := ⟨q0 + 1 + 1, 0, none⟩) (fun e => by have h1 := (O6.out.1.lt _ e).1; have := H4.out; exact absurd h1 (by show ¬ _ ≤ q0 + 1 + 1; omega)) (.slice A5 n5 c5)).far (p := ⟨q0 + 1 + 1, 1, none⟩) (fun e => by have h1 := (O6.out.1.lt _ e).1; have := H4.out; exact absurd h1 (by show ¬ _ ≤ q0 + 1 + 1; omega)) (.slice A6 n6 c6))
    refine bodyPost_ret (v := .agg #[.slice A5 n5 c5, .slice A6 n6 c6]) ?_ rfl ⟨⟨⟨A5, n5, c5, _⟩, ⟨A6, n6, c6, _⟩⟩, rfl, rfl, rfl, P5.lies.mono ?_, P6.lies.mono ?_, rfl, rfl, K⟩
    · exact results_cell_row (p := 6) (ty := 45) rfl _ _ (q0 + 1 + 1) 45 _ (0, 0) _ rfl hb Tryz.underlying45 rfl infoRowSize
    · intro b hb
      have h1 := P5.1.lt _ hb
      have := H3.out
      exact Or.inr ⟨by rw [HQ0.out]; omega, h1.2⟩
    · intro b hb
      have h1 := P6.1.lt _ hb
      have := H4.out
      exact Or.inr ⟨by rw [HQ0.out]; omega, h1.2⟩
end Go.Proofs.YtgelalbmhllccaaGreat
/- The landed code of layer 7: where a new row is to stand. -/
namespace Go.Proofs.YtgelalbmhllccaaGreat
open Go.RowKit Lin
set_option linter.unusedVariables false
set_option linter.unusedSimpArgs false
set_option maxRecDepth 100000 in
set_option maxHeartbeats 2000000 in
theorem bplace_any {w : World} {F : Nat → Prop} {b g s n c : Nat} {B : List (List Nat)} {A : Option Addr} {ps : List PairV} (h : BasA w F b g s B A n c ps) (L : Nat) (hL : L < g) :
    Calls Tryz.prog 126 #[.pointer (some ⟨b, 0, none⟩), .int .i64 (L : Int)] w fun e w' => ∃ q : Nat, e = .returned (.int .i64 (q : Int)) ∧ q ≤ n ∧ (∀ i, i < q → ∃ j, j < L ∧ (B.getD i []).getD j 0 ≠ 0) ∧ (q < n → ∀ j, j < L → (B.getD q []).getD j 0 = 0) ∧ Keep w w' := by
  have c2 := h.c2
  have H := Lib.hid h
  have hn : n ≤ 255 := by have := h.n_le; have := h.g2; omega
  have hg : g ≤ 255 := h.g2
  have hb := h.lt b h.at_
  have HC2 := Lib.hid (And.intro hb c2)
  clear h
  go_enter Tryz.func126, Tryz.ntmps126
  go_wp2_with fail
  go_step3
  go_wp2_with fail
  go_step3
  go_wp2_with fail
  clear c2 hb
  go_loopg [14] n (fun gk i wx => ∃ k : Nat, k + gk = n ∧ i = .int .i64 k ∧ Keep w wx ∧ ∀ i, i < k → ∃ j, j < L ∧ (B.getD i []).getD j 0 ≠ 0)
  case atStart => exact ⟨0, by omega, rfl, Keep.refl w, fun i hi => by omega⟩
  case round =>
    obtain ⟨k, hkg, rfl, hk, hlo⟩ := hrel
    have HK := Lib.hid hk
    have HLO := Lib.hid hlo
    have c2 := (hk.cell (p := ⟨b, 2, none⟩) HC2.out.1).trans HC2.out.2
    clear hk hlo
    cases gk with
    | zero =>
      obtain rfl : k = n := by omega
      have e1 : ¬ (k : Int) < (k : Int) := by omega
      go_wp2_with fail
      go_ret
      exact ⟨k, rfl, Nat.le_refl _, HLO.out, fun h => by omega, HK.out⟩
    | succ gg =>
      have hlt : k < n := by omega
      have e1 : (k : Int) < (n : Int) := by omega
      have e2 : (0 : Int) ≤ (k : Int) := Int.natCast_nonneg _
      obtain ⟨b2, o2, p, rfl, hb2, hp, hc1, hc2, hl2, _⟩ := (H.out.st.keep HK.out).at_ hlt
      have hsz := (H.out.size p (List.mem_of_getElem? hp)).1
      have hrow := H.out.row hp
      have hcap := hl2.2.2.1
      have hby := hl2.bytes (B := w.heap.size) H.out.lt
      have hpl := (H.out.lens (List.mem_of_getElem? hp)).1
      obtain ⟨⟨pA, pn, pc, px⟩, ⟨sA, sn, sc, sx⟩⟩ := p
      simp only at hsz hrow hcap hby hpl
      obtain rfl : pn = g := hsz
      have hsl := fun (w : World) => run_slice_h (P := Tryz.prog) (w := w) 43 pA pn pc Tryz.underlying43 .i64 (L : Int) (by omega) (by omega)
      have HROW : Hid (∀ t, t < pn → (B.getD k []).getD t 0 = px.getD t 0) := fun t ht => by rw [hrow.1, List.getD_eq_getElem?_getD, List.getElem?_append_left (by rw [hpl]; exact ht), ← List.getD_eq_getElem?_getD]
      have HPY := Lib.hid hby
      have HKN : Hid (k + (gg + 1) = n) := hkg
      clear hl2 hp hb2 hrow hby hpl hcap
      go_wp2_with fail
      have K2 : Hid (Keep wr (wr.alloc (.cells #[.slice pA pn pc, .slice sA sn sc] 45))) := (Keep.refl wr).alloc _ _
      clear hc1 hc2 c2 hsl
      generalize (wr.alloc (.cells #[.slice pA pn pc, .slice sA sn sc] 45)) = w2 at *
      go_loopg [24] L (fun g2 i wy => ∃ j : Nat, j + g2 = L ∧ i = .int .i64 j ∧ Keep w2 wy ∧ ∀ t, t < j → px.getD t 0 = 0)
      case atStart => exact ⟨0, by omega, rfl, Keep.refl _, fun t ht => by omega⟩
      case round =>
        obtain ⟨j, hjg, rfl, hk3, hz⟩ := hrel
        have HK3 := Lib.hid hk3
        have HZ := Lib.hid hz
        clear hk3 hz
        cases gk with
        | zero =>
          obtain rfl : j = L := by omega
          have e3 : ¬ (j : Int) < (j : Int) := by omega
          go_wp2_with fail
          go_ret
          exact ⟨k, rfl, by have := HKN.out; omega, HLO.out, fun _ t ht => by rw [HROW.out t (by omega)]; exact HZ.out t ht, (HK.out.trans K2.out).trans HK3.out⟩
        | succ g2 =>
          have e3 : (j : Int) < (L : Int) := by omega
          have e4 : (0 : Int) ≤ (j : Int) := Int.natCast_nonneg _
          obtain ⟨b3, o3, rfl, hb3, hcx⟩ := (HPY.out.below (Below.mono (K2.out.trans HK3.out) HK.out.size)).at_ (show j < pn by omega)
          by_cases hx : px.getD j 0 = 0
          · have HX := Lib.hid hx
            rw [hx] at hcx
            clear hx
            go_wp2_with fail
            go_roundg g2
            case measure => omega
            case rel => exact ⟨j + 1, by omega, by go_num, HK3.out, fun t ht => by
              by_cases e : t = j
              · subst e; exact HX.out
              · exact HZ.out t (by omega)⟩
          · obtain ⟨x, hxe⟩ : ∃ x, px.getD j 0 = x := ⟨_, rfl⟩
            rw [hxe] at hcx hx
            have HX := Lib.hid (And.intro hxe hx)
            have b1 : ((x : Int) != 0) = true := by rw [bne_iff_ne]; omega
            clear hx hxe
            go_wp2_with fail
            go_roundg gg
            case measure => omega
            case rel => exact ⟨k + 1, by omega, by go_num, (HK.out.trans K2.out).trans HK3.out, fun i hi => by
              by_cases e : i = k
              · subst e; exact ⟨j, by omega, by rw [HROW.out j (by omega), HX.out.1]; exact HX.out.2⟩
              · exact HLO.out i (by omega)⟩
end Go.Proofs.YtgelalbmhllccaaGreat
/- Rows of structs in a block of their own: made, stored to, copied. -/
namespace Go.Proofs.YtgelalbmhllccaaGreat
open Go.RowKit
set_option linter.unusedVariables false
/-- A block that holds rows, the spare ones too. -/
def StB (w : World) (q : Nat) (ps : List PairV) : Prop := w.heap[q]? = some (.cells (ps.flatMap PairV.vals).toArray 45 (0, 0))
def PairV.zero : PairV := ⟨⟨none, 0, 0, []⟩, ⟨none, 0, 0, []⟩⟩
theorem vals_rep : ∀ n : Nat, (List.replicate n PairV.zero).flatMap PairV.vals = List.replicate (n * 2) (.slice none 0 0)
  | 0 => rfl
  | n + 1 => by
    rw [List.replicate_succ, List.flatMap_cons, vals_rep n, show (n + 1) * 2 = n * 2 + 1 + 1 by omega, List.replicate_succ, List.replicate_succ]; rfl
theorem vals_set : ∀ (ps : List PairV) (k : Nat) (p : PairV), ((ps.flatMap PairV.vals).set (k * 2) p.a.val).set (k * 2 + 1) p.b.val = (ps.set k p).flatMap PairV.vals
  | [], k, p => by simp
  | q :: ps, 0, p => rfl
  | q :: ps, k + 1, p => by
    have ih := vals_set ps k p
    rw [show (k + 1) * 2 = k * 2 + 1 + 1 by omega]
    show (((q.a.val :: q.b.val :: ps.flatMap PairV.vals).set (k * 2 + 1 + 1) p.a.val).set (k * 2 + 1 + 1 + 1) p.b.val) = q.a.val :: q.b.val :: (ps.set k p).flatMap PairV.vals
    rw [List.set_cons_succ, List.set_cons_succ, List.set_cons_succ, List.set_cons_succ, ih]
theorem vals_take : ∀ (ps : List PairV) (k : Nat), (ps.flatMap PairV.vals).take (k * 2) = (ps.take k).flatMap PairV.vals
  | [], k => by simp
  | q :: ps, 0 => by simp
  | q :: ps, k + 1 => by
    rw [show (k + 1) * 2 = k * 2 + 1 + 1 by omega, List.take_succ_cons, List.flatMap_cons, List.flatMap_cons, ← vals_take ps k]; rfl
theorem vals_drop : ∀ (ps : List PairV) (k : Nat), (ps.flatMap PairV.vals).drop (k * 2) = (ps.drop k).flatMap PairV.vals
  | [], k => by simp
  | q :: ps, 0 => by simp
  | q :: ps, k + 1 => by
    rw [show (k + 1) * 2 = k * 2 + 1 + 1 by omega, List.drop_succ_cons, List.flatMap_cons, ← vals_drop ps k]; rfl
theorem vals_one (ps : List PairV) : ∀ v ∈ ps.flatMap PairV.vals, v.oneCell' = true := fun v hv => by
  obtain ⟨p, _, hp⟩ := List.mem_flatMap.1 hv
  simp [PairV.vals] at hp
  rcases hp with rfl | rfl <;> rfl
theorem made_two (z : Value) (n : Nat) : (madeCells #[z, z] n).toList = List.replicate n z := by
  unfold madeCells
  rw [Array.toList_map, Array.toList_range, List.eq_replicate_iff]
  refine ⟨by simp, fun b hb => ?_⟩
  obtain ⟨i, _, rfl⟩ := List.mem_map.1 hb
  show #[z, z][i % 2]! = z
  rcases Nat.mod_two_eq_zero_or_one i with e | e <;> rw [e] <;> rfl
theorem run_make_st (n c : Nat) (hn : n ≤ c) (hc : c ≤ 1000000) (w : World) :
    (Instr.makeSlice 137 (.int .i64 (n : Int)) (.int .i64 (c : Int))).run Tryz.prog w = .ok (.slice (some ⟨w.heap.size, 0, none⟩) n c) (w.alloc (.cells ((List.replicate c PairV.zero).flatMap PairV.vals).toArray 45)) := by
  obtain ⟨i0, hi0, hz0, hz1, hz2⟩ := info_parts infoSt
  have h := run_make (P := Tryz.prog) w 137 45 i0 (.agg #[.slice none 0 0, .slice none 0 0]) Tryz.underlying137 hi0 hz0 .i64 .i64 n c (by omega) (by omega) (by rw [hz2]; omega) (by omega)
  rw [hz1, Int.toNat_natCast, Int.toNat_natCast] at h
  have e : madeCells (Value.cells (.agg #[.slice none 0 0, .slice none 0 0])) (c * 2) = ((List.replicate c PairV.zero).flatMap PairV.vals).toArray := by
    refine Array.ext' ?_
    rw [vals_rep]
    exact made_two _ _
  rw [h, e]
namespace StB
variable {w w' : World} {q : Nat} {ps : List PairV}
theorem made (w : World) (c : Nat) : StB (w.alloc (.cells ((List.replicate c PairV.zero).flatMap PairV.vals).toArray 45)) w.heap.size (List.replicate c PairV.zero) := heap_alloc_new w _
theorem lt (h : StB w q ps) : q < w.heap.size := (Array.getElem?_eq_some_iff.1 h).1
theorem turned {G : Nat → Prop} (h : StB w q ps) (k : Turned G w w') (hn : ¬ G q) : StB w' q ps := (k.block q h.lt hn).trans h
theorem keep (h : StB w q ps) (k : Keep w w') : StB w' q ps := (k.block q h.lt).trans h
theorem cells (h : StB w q ps) {k : Nat} {p : PairV} (hp : ps[k]? = some p) : w.cell? ⟨q, k * 2, none⟩ = some p.a.val ∧ w.cell? ⟨q, k * 2 + 1, none⟩ = some p.b.val := by
  obtain ⟨v1, v2⟩ := vals_at ps k p hp
  constructor
  · rw [World.cell?, h]; simpa using v1
  · rw [World.cell?, h]; simpa using v2
theorem frozen (h : StB w q ps) (j : Nat) : w.frozen? ⟨q, j, none⟩ = false := by simp [World.frozen?, show w.heap[q]? = _ from h]
theorem set (h : StB w q ps) (k : Nat) (p : PairV) : StB ((w.setCell ⟨q, k * 2, none⟩ p.a.val).setCell ⟨q, k * 2 + 1, none⟩ p.b.val) q (ps.set k p) := by
  have e := vals_set ps k p
  show (((w.setCell ⟨q, k * 2, none⟩ p.a.val).setCell ⟨q, k * 2 + 1, none⟩ p.b.val)).heap[q]? = _
  rw [← e]
  simp [World.setCell, Array.getElem?_modify, show w.heap[q]? = _ from h]
theorem own (h : StB w q ps) {base n c : Nat} (hb : base ≤ q) (hn : n ≤ c) (hc : ps.length = c) (hm : c ≤ 1000000) : OwnSt w base (some ⟨q, 0, none⟩) n c (ps.take n) := by
  refine ⟨by rw [vals_len, List.length_take]; congr 1; omega, Or.inr ⟨q, c, _, rfl, hb, h, hn, by unfold maxLen; omega, by rw [List.size_toArray, vals_len, hc], ?_⟩⟩
  rw [List.toList_toArray, vals_take]
theorem copy (h : StB w q ps) {d dl sl k o : Nat} {a : Addr} {rs : List PairV} (hk : min sl dl = k) (hrs : rs.length = k) (ho : o = d * 2) (hfit : d + k ≤ ps.length)
    (hsrc : ∀ j p, rs[j]? = some p → w.cell? (a.add (j * 2)) = some p.a.val ∧ w.cell? (a.add (j * 2 + 1)) = some p.b.val) :
    ∃ w', (∀ ty dc sc, (Builtin.copy_ #[137, 137] ty #[.slice (some ⟨q, o, none⟩) dl dc, .slice (some a) sl sc]).run Tryz.prog w = .ok (goInt k) w') ∧ StB w' q (ps.take d ++ rs ++ ps.drop (d + k)) ∧ Turned (fun b => b = q) w w' := by
  subst ho
  obtain ⟨i0, hi0, hz0, hz1, hz2⟩ := info_parts infoSt
  have hcl : (rs.flatMap PairV.vals).length = k * 2 := by rw [vals_len, hrs]
  have hl := run_loadCells_list (P := Tryz.prog) w a (rs.flatMap PairV.vals) (fun j v hv => by
    have hj : j < k * 2 := by rw [← hcl]; exact (List.getElem?_eq_some_iff.1 hv).1
    have hp := List.getElem?_eq_getElem (l := rs) (i := j / 2) (by omega)
    obtain ⟨v1, v2⟩ := vals_at rs (j / 2) _ hp
    obtain ⟨s1, s2⟩ := hsrc (j / 2) _ hp
    rcases Nat.mod_two_eq_zero_or_one j with e | e
    · have e2 : j / 2 * 2 = j := by omega
      rw [e2] at v1 s1
      rw [v1] at hv
      rw [s1]; exact hv
    · have e2 : j / 2 * 2 + 1 = j := by omega
      rw [e2] at v2 s2
      rw [v2] at hv
      rw [s2]; exact hv)
  have hst := run_storeCells_at Tryz.prog q (d * 2) 45 (rs.flatMap PairV.vals) 0 (ps.flatMap PairV.vals).toArray w h (by have := vals_len ps; rw [List.size_toArray]; omega) (vals_one rs)
  refine ⟨w.setRow q (((ps.flatMap PairV.vals).toArray.toList.take (d * 2 + 0) ++ rs.flatMap PairV.vals ++ (ps.flatMap PairV.vals).toArray.toList.drop (d * 2 + 0 + (rs.flatMap PairV.vals).length)).toArray), ?_, ?_, ?_⟩
  · intro ty dc sc
    rw [hcl] at hl
    simp [Builtin.copy_, run_underlying Tryz.underlying137, Builtin.lenOf, Builtin.firstCells, sizeOf, typeInfo, hi0, hz1, hk, hl, hst]
  · rw [StB, setRow_heap w q _ _ _ _ h, List.toList_toArray, Nat.add_zero, hcl, vals_take, show d * 2 + k * 2 = (d + k) * 2 by omega, vals_drop, List.flatMap_append, List.flatMap_append]
  · exact ⟨rfl, rfl, rfl, by rw [setRow_size]; exact Nat.le_refl _, fun i _ hi => setRow_other w q i _ hi⟩
end StB
end Go.Proofs.YtgelalbmhllccaaGreat
/- The library's slices.Insert: one row put into rows with one spare place. -/
namespace Go.Proofs.YtgelalbmhllccaaGreat
open Go.RowKit
set_option linter.unusedVariables false
set_option linter.unusedSimpArgs false
/-- 'copy' where its run is known. -/
theorem wpList_copy_run {P : Program} (w : World) {ops : Array Oper} {rest : List Oper} {o : Oper} {a : Act} {Q : Exit → Act → World → Prop} (hgd : o.guard = none) (d s : Operand) (t t' : TypeId)
    (ho : o.op = .call { callee := .builtin .copy, args := #[d, s], argTypes := #[t, t'] }) (v u : Value) (hd : a.eval d = v) (hs : a.eval s = u) {v' : Value} {w' : World}
    (hr : (Builtin.copy_ #[t, t'] o.type #[v, u]).run P w = .ok v' w') (h : wpList P ops Q rest (a.put o.dst v') w') : wpList P ops Q (o :: rest) a w :=
  wpList_plain hgd fun _ hK => by
    unfold Oper.wp execOp
    simp only [ho, resolve, invoke, builtin, Sem.run_bind, Sem.run_pure, Result.andThen_ok, List.map_toArray, List.map_cons, List.map_nil, hd, hs, hr]
    exact hK _ _ h
theorem step_copy_run {P : Program} {ops : Array Oper} {o : Oper} {a : Act} {w : World} {K : Act → World → Prop} {Q : Exit → Act → World → Prop} {E : Prop}
    (hg : o.guard = none) (d x : Operand) (dT sT : TypeId) (hop : o.op = Op.call { callee := Callee.builtin Builtin.copy, args := #[d, x], argTypes := #[dT, sT] })
    (v u : Value) (hd : a.eval d = v) (hx : a.eval x = u) {v' : Value} {w' : World} (hr : (Builtin.copy_ #[dT, sT] o.type #[v, u]).run P w = .ok v' w') (hK : K (a.put o.dst v') w') :
    if Region.wanted o (yielded ops a.tmps) = true then Oper.wp P o a w K Q else E := by
  have hw : Region.wanted o (yielded ops a.tmps) = true := by simp [Region.wanted, hg]
  rw [if_pos hw]
  unfold Oper.wp
  simp [execOp, hop, resolve, invoke, builtin, hd, hx, hr, Result.andThen]
  exact hK
theorem StB.overlaps {w : World} {q q2 n i lb cb : Nat} {ps rs : List PairV} (h : StB w q ps) (h2 : StB w q2 rs) (hne : q2 ≠ q) (hl : ps ≠ []) (o : Nat) (lr cr : Nat) :
    (callFunc 150 #[.slice (some ⟨q2, 0, none⟩) lr cr, .slice (some ⟨q, o, none⟩) lb cb]).run Tryz.prog w = .ok (.value (.bool false)) w := by
  have hs : ∀ w, (Go.sizeOf 45).run Tryz.prog w = .ok 2 w := fun w => by
    obtain ⟨i0, hi0, hz0, hz1, hz2⟩ := info_parts infoSt
    simp [sizeOf, typeInfo, hi0, hz1]
  have hk : (ps.flatMap PairV.vals).toArray.size ≠ 0 := by
    have := vals_len ps
    cases ps with
    | nil => exact absurd rfl hl
    | cons a l => rw [List.size_toArray, this]; simp
  rw [run_callFunc_extern Tryz.func150 (by kernel_rfl) (by kernel_rfl) (by kernel_rfl) (e := Extern.SlicesOverlaps.overlaps #[137, 137] #[4]) (by kernel_rfl),
    Lib.run_overlaps_apart w 137 4 45 Tryz.underlying137 2 hs ⟨q2, 0, none⟩ ⟨q, o, none⟩ lr cr lb cb hne 45 45 _ _ (by rw [World.shape?, show w.heap[q2]? = _ from h2]) (by rw [World.shape?, show w.heap[q]? = _ from h]) hk (h2.frozen 0) (h2.frozen _)]
  rfl
set_option maxRecDepth 100000 in
set_option maxHeartbeats 4000000 in
theorem binsert_rows (q n i q2 base : Nat) (ps : List PairV) (p : PairV) (w : World) (h : StB w q ps) (hlen : ps.length = n + 1) (hb : base ≤ q) (hv : StB w q2 [p]) (hne : q2 ≠ q) (hi : i ≤ n) (hn : n ≤ 255) :
    Calls Tryz.prog 125 #[.slice (some ⟨q, 0, none⟩) n (n + 1), .int .i64 (i : Int), .slice (some ⟨q2, 0, none⟩) 1 1] w fun e w' =>
      ∃ A' c', e = .returned (.slice A' (n + 1) c') ∧ OwnSt w' base A' (n + 1) c' (ps.take i ++ [p] ++ (ps.take n).drop i) ∧ Turned (fun b => b = q) w w' := by
  have e1 : (0 : Int) ≤ (i : Int) := Int.natCast_nonneg _
  have e2 : (i : Int) ≤ (n : Int) := by omega
  have e0 : (i : Int).toNat = i := Int.toNat_natCast _
  by_cases hin : i = n
  · subst hin
    have hown := h.own hb (n := i) (c := i + 1) (by omega) hlen (by omega)
    have hc := hv.cells (k := 0) (p := p) rfl
    have HL := Lib.hid hlen
    have HLT := Lib.hid (And.intro hb h.lt)
    have HOWN := Lib.hid hown
    have HC := Lib.hid hc
    have HN := Lib.hid hn
    clear h hv hc hown hlen hb
    go_enter Tryz.func125, Tryz.ntmps125
    go_wp2_with (at_builtin; refine wpList_append_st rfl _ _ 137 rfl p Tryz.underlying137 rfl HOWN.out rfl HC.out.1 HC.out.2 (by have := HN.out; omega) (by have := HLT.out; omega) ?_)
    intro A2 c2 w' h1 h2 _
    have H1 := Lib.hid h1
    have H2 := Lib.hid h2
    clear h1 h2
    go_wp2_with fail
    go_ret
    refine ⟨A2, c2, rfl, ?_, Turned.of_grown H2.out fun k hk => ?_⟩
    · have h3 := H1.out
      rwa [show (ps.take i).drop i = [] from List.drop_of_length_le (by rw [List.length_take]; omega), List.append_nil]
    · cases hk; rfl
  · have hov : ∀ o lb cb, (callFunc 150 #[.slice (some ⟨q2, 0, none⟩) 1 1, .slice (some ⟨q, o, none⟩) lb cb]).run Tryz.prog w = .ok (.value (.bool false)) w := fun o lb cb => h.overlaps (n := n) (i := i) hv hne (fun e => by rw [e] at hlen; simp at hlen) o 1 1
    have hw1 : IntKind.i64.wrap ((i : Int) + 1) = (i : Int) + 1 := by rw [IntKind.wrap_i64]; omega
    have hw2 : IntKind.i64.wrap ((n : Int) + 1) = (n : Int) + 1 := by rw [IntKind.wrap_i64]; omega
    have hz2 : ¬ ((i : Int) = (n : Int)) := by omega
    have hb1 : (0 : Int) ≤ (i : Int) + 1 := by omega
    have htn : ((i : Int) + 1).toNat = i + 1 := by omega
    have hb2 : ¬ (n = i) := by omega
    have hb3 : (i : Int) ≤ (n : Int) + 1 := by omega
    have hb4 : ¬ (n + 1 = i) := by omega
    have hb5 : (i : Int) + 1 ≤ (n : Int) + 1 := by omega
    have hrl : ((ps.take n).drop i).length = n - i := by rw [List.length_drop, List.length_take]; omega
    have HH := Lib.hid (And.intro h (And.intro hv hlen))
    have hd0 : Keep w w.drew := (Keep.refl w).drew
    have ha : ∀ o j, (⟨q, o, none⟩ : Addr).add j = ⟨q, o + j, none⟩ := fun o j => by unfold Addr.add; split <;> simp_all
    have ha2 : ∀ o j, (⟨q2, o, none⟩ : Addr).add j = ⟨q2, o + j, none⟩ := fun o j => by unfold Addr.add; split <;> simp_all
    obtain ⟨W1, hr1, hs1, ht1⟩ := (h.keep hd0).copy (d := i + 1) (dl := n - i) (sl := n + 1 - i) (k := n - i) (a := ⟨q, i * 2, none⟩) (rs := (ps.take n).drop i) (by omega) hrl rfl (by omega) (fun j r hj => by
      rw [List.getElem?_drop, List.getElem?_take] at hj
      split at hj
      · have := (h.keep hd0).cells hj
        rw [ha, ha, show i * 2 + j * 2 = (i + j) * 2 by omega, show i * 2 + (j * 2 + 1) = (i + j) * 2 + 1 by omega]; exact this
      · cases hj)
    have hp1 : ps.take (i + 1) ++ (ps.take n).drop i ++ ps.drop (i + 1 + (n - i)) = ps.take (i + 1) ++ (ps.take n).drop i := by
      rw [List.drop_of_length_le (l := ps) (i := i + 1 + (n - i)) (by omega), List.append_nil]
    rw [hp1] at hs1
    have hv1 : StB W1 q2 [p] := (hv.keep hd0).turned ht1 hne
    have hl1 : (ps.take (i + 1)).length = i + 1 := by rw [List.length_take]; omega
    obtain ⟨W2, hr2, hs2, ht2⟩ := hs1.copy (d := i) (dl := n + 1 - i) (sl := 1) (k := 1) (a := ⟨q2, 0, none⟩) (rs := [p]) (by omega) rfl rfl (by rw [List.length_append, hl1, hrl]; omega) (fun j r hj => by
      obtain rfl : j = 0 := by
        have := (List.getElem?_eq_some_iff.1 hj).1
        simp at this; exact this
      have := hv1.cells hj
      rw [ha2, ha2]; exact this)
    have hp2 : (ps.take (i + 1) ++ (ps.take n).drop i).take i ++ [p] ++ (ps.take (i + 1) ++ (ps.take n).drop i).drop (i + 1) = ps.take i ++ [p] ++ (ps.take n).drop i := by
      rw [List.take_append_of_le_length (by omega), List.take_take, show min i (i + 1) = i by omega, List.drop_append, List.drop_of_length_le (l := ps.take (i + 1)) (by omega), hl1, Nat.sub_self]; rfl
    rw [hp2] at hs2
    have HF := Lib.hid (And.intro hs2 (And.intro hb (Turned.trans (F := fun b => b = q) (Turned.trans (F := fun b => b = q) (Turned.of_keep hd0) ht1 fun _ e => Or.inl e) ht2 fun _ e => Or.inl e)))
    have HLN : Hid ((ps.take i ++ [p] ++ (ps.take n).drop i).length = n + 1) := by
      show _ = _
      rw [List.length_append, List.length_append, List.length_take, hrl, List.length_singleton]; omega
    clear h hv hs1 ht1 hv1 hs2 ht2 hp1 hp2 hl1 hrl ha ha2 hd0 hb hlen
    go_enter Tryz.func125, Tryz.ntmps125
    go_wp2_with (simp only [hov])
    go_region_law (refine step_copy_run rfl _ _ 137 137 rfl _ _ (by simp [Act.eval, Act.put]) (by simp [Act.eval, Act.put]) (hr1 _ _ _) ?_)
    go_wp2_with (at_builtin; refine wpList_copy_run _ rfl _ _ 137 137 rfl _ _ rfl rfl (hr2 _ _ _) ?_)
    go_ret
    have := HF.out.1.own (base := base) (n := n + 1) (c := n + 1) HF.out.2.1 (Nat.le_refl _) HLN.out (by omega)
    rw [List.take_of_length_le (by rw [HLN.out]; exact Nat.le_refl _)] at this
    exact ⟨_, _, rfl, this, HF.out.2.2⟩
end Go.Proofs.YtgelalbmhllccaaGreat
