/- The landed sink: its Release. -/
import Derived.Test.YtgelalbmhllccaaQak
import Derived.Test.YtgelalbmhllccaaQab
import Derived.Test.YtgelalbmhllccaaQaa
import Derived.Test.YtgelalbmhllccaaQai
import Derived.Lib.SlBytesConst
namespace Go.Proofs.Ytgelalbmhllccaa
open Go.RowKit Lin
set_option linter.unusedVariables false
set_option linter.unusedSimpArgs false
attribute [local go_sem] Oper.semAt_some
theorem ismade_any {w : World} {q n of : Nat} {g s : Int} {kn br : Bool} (h : SnkR w q g s n of kn br) : Calls Try.prog 19 #[.pointer (some ⟨q, 0, none⟩)] w fun e w' => e = .returned (.bool true) ∧ w' = w := by
  have c0 := h.c0
  have g1 : 0 < g := by have := h.may.1; omega
  have g2 : decide (0 < g) = true := decide_eq_true g1
  clear h
  go_enter Try.func19, Try.ntmps19
  go_wp2_with fail
  go_ret
  exact ⟨rfl, rfl⟩
theorem ismade_none (w : World) : Calls Try.prog 19 #[.pointer none] w fun e w' => e = .returned (.bool false) ∧ w' = w := by
  go_enter Try.func19, Try.ntmps19
  go_wp2_with fail
  go_ret
  exact ⟨rfl, rfl⟩
theorem results_two {P : Program} {fn : Func} {p1 p2 : Tmp} {t1 t2 : TypeId} (h : fn.results = #[.cell p1 t1, .cell p2 t2]) (tmps : Array Value) (w : World) (g1 g2 : Nat) (v1 v2 : Value)
    (h1 : tmps.getD p1 undef = .pointer (some ⟨g1, 0, none⟩)) (h2 : tmps.getD p2 undef = .pointer (some ⟨g2, 0, none⟩)) (c1 : w.cell? ⟨g1, 0, none⟩ = some v1) (c2 : w.cell? ⟨g2, 0, none⟩ = some v2) (a1 : (isAgg t1).run P w = .ok false w) (a2 : (isAgg t2).run P w = .ok false w) :
    (results fn tmps).run P w = .ok (.tuple #[v1, v2]) w := by
  have h1' : tmps[p1]?.getD undef = .pointer (some ⟨g1, 0, none⟩) := by simpa using h1
  have h2' : tmps[p2]?.getD undef = .pointer (some ⟨g2, 0, none⟩) := by simpa using h2
  simp [results, h, h1', h2', asAddr, go_sem, c1, c2, a1, a2]
section
variable {F : Nat → Prop} {p q g s k b of : Nat} {L : Nat → List (List Nat)} {kn : Bool}
theorem rdynew_any (w : World) : Calls Try.prog 20 #[.pointer (some ⟨q, 0, none⟩), .pointer (some ⟨p, 0, none⟩)] w fun e w' => e = .returned (.func (.func 27) #[] #[.pointer (some ⟨w.heap.size, 0, none⟩), .pointer (some ⟨w.heap.size + 1, 0, none⟩)]) ∧ w' = (w.alloc (.cells #[.pointer (some ⟨q, 0, none⟩)] 23)).alloc (.cells #[.pointer (some ⟨p, 0, none⟩)] 28) := by
  go_enter Try.func20, Try.ntmps20
  go_wp2_with fail
  go_ret
  exact ⟨by simp, rfl⟩
set_option maxRecDepth 100000 in
set_option maxHeartbeats 4000000 in
theorem krel_in {w : World} {got : Nat} (hS : SnkR w q (g : Int) (s : Int) got of kn false) (hR : RelR w F p g s k b L) (hq : ¬ F q) :
    Calls Try.prog 7 #[.pointer (some ⟨q, 0, none⟩), .pointer (some ⟨p, 0, none⟩)] w (LTold w F p q g s k b L got of kn) := by
  refine (callsIn_wide (n := 8)).1 ?_
  refine callsIn_of_wp_marks Try.func7 rfl trivial ?_ rfl
  simp only [Try.ntmps7, List.size_toArray, List.length_cons, List.length_nil, Nat.reduceAdd, Nat.reduceSub, Array.replicate_succ, Array.replicate_zero, List.push_toArray, List.append_toArray, List.nil_append, List.cons_append]
  obtain ⟨w3, hw3⟩ : ∃ v, ((w.alloc (.cells #[.pointer (some ⟨q, 0, none⟩)] 23)).alloc (.cells #[.slice none 0 0] 31)).alloc (.cells #[.int .i64 0] 24) = v := ⟨_, rfl⟩
  have k3 : Keep w w3 := by rw [← hw3]; exact (((Keep.refl w).alloc _ _).alloc _ _).alloc _ _
  have hS3 := hS.keep k3
  have him := ismade_any hS3
  have c5 := hS3.c5
  obtain ⟨B0, hB0⟩ : ∃ v, w.heap.size = v := ⟨_, rfl⟩
  have x0 : w3.heap[B0]? = some (.cells #[.pointer (some ⟨q, 0, none⟩)] 23 (0, 0)) := by
    rw [← hw3, ← hB0]; exact (Below.heap_alloc _ _ _ (by simp; omega)).trans ((Below.heap_alloc _ _ _ (by simp)).trans (heap_alloc_new w _))
  have x1 : w3.heap[B0 + 1]? = some (.cells #[.slice none 0 0] 31 (0, 0)) := by
    have h := heap_alloc_new (w.alloc (.cells #[.pointer (some ⟨q, 0, none⟩)] 23)) (.cells #[.slice none 0 0] 31)
    rw [World.size_alloc] at h
    rw [← hw3, ← hB0]; exact (Below.heap_alloc _ _ _ (by simp)).trans h
  have x2 : w3.heap[B0 + 1 + 1]? = some (.cells #[.int .i64 0] 24 (0, 0)) := by
    have h := heap_alloc_new ((w.alloc (.cells #[.pointer (some ⟨q, 0, none⟩)] 23)).alloc (.cells #[.slice none 0 0] 31)) (.cells #[.int .i64 0] 24)
    rw [World.size_alloc, World.size_alloc] at h
    rw [← hw3, ← hB0]; exact h
  have y0 : w3.cell? ⟨B0, 0, none⟩ = some (.pointer (some ⟨q, 0, none⟩)) := cell_of_row _ _ _ _ _ _ x0
  have hrn := rdynew_any (q := q) (p := p) (w3.alloc (.cells #[.slice none 0 0] 31))
  have s3 : w3.heap.size = B0 + 3 := by rw [← hw3, ← hB0]; simp
  gi_wp2_with first
    | (refine ⟨trivial, ?_⟩; gi_at_call 19; refine (callsIn_wide.2 him).mono ?_; rintro e w4 ⟨rfl, h4⟩; rw [h4]; clear h4)
    | (refine ⟨trivial, ?_⟩; gi_at_call 20; refine (callsIn_wide.2 hrn).mono ?_; rintro e w4 ⟨rfl, h4⟩; rw [h4]; clear h4)
  have k4 : Keep w3 (((w3.alloc (.cells #[.slice none 0 0] 31)).alloc (.cells #[.pointer (some ⟨q, 0, none⟩)] 23)).alloc (.cells #[.pointer (some ⟨p, 0, none⟩)] 28)) := (((Keep.refl w3).alloc _ _).alloc _ _).alloc _ _
  have x3 : (((w3.alloc (.cells #[.slice none 0 0] 31)).alloc (.cells #[.pointer (some ⟨q, 0, none⟩)] 23)).alloc (.cells #[.pointer (some ⟨p, 0, none⟩)] 28)).heap[B0 + 3]? = some (.cells #[.slice none 0 0] 31 (0, 0)) := by
    rw [← s3]; exact (Below.heap_alloc _ _ _ (by simp; omega)).trans ((Below.heap_alloc _ _ _ (by simp)).trans (heap_alloc_new w3 _))
  have x4 : (((w3.alloc (.cells #[.slice none 0 0] 31)).alloc (.cells #[.pointer (some ⟨q, 0, none⟩)] 23)).alloc (.cells #[.pointer (some ⟨p, 0, none⟩)] 28)).heap[B0 + 4]? = some (.cells #[.pointer (some ⟨q, 0, none⟩)] 23 (0, 0)) := by
    have h := heap_alloc_new (w3.alloc (.cells #[.slice none 0 0] 31)) (.cells #[.pointer (some ⟨q, 0, none⟩)] 23)
    rw [World.size_alloc, s3] at h
    exact (Below.heap_alloc _ _ _ (by simp; omega)).trans h
  have x5 : (((w3.alloc (.cells #[.slice none 0 0] 31)).alloc (.cells #[.pointer (some ⟨q, 0, none⟩)] 23)).alloc (.cells #[.pointer (some ⟨p, 0, none⟩)] 28)).heap[B0 + 5]? = some (.cells #[.pointer (some ⟨p, 0, none⟩)] 28 (0, 0)) := by
    have h := heap_alloc_new ((w3.alloc (.cells #[.slice none 0 0] 31)).alloc (.cells #[.pointer (some ⟨q, 0, none⟩)] 23)) (.cells #[.pointer (some ⟨p, 0, none⟩)] 28)
    rw [World.size_alloc, World.size_alloc, s3] at h
    exact h
  obtain ⟨wz, hwz⟩ : ∃ v, (((w3.alloc (.cells #[.slice none 0 0] 31)).alloc (.cells #[.pointer (some ⟨q, 0, none⟩)] 23)).alloc (.cells #[.pointer (some ⟨p, 0, none⟩)] 28)) = v := ⟨_, rfl⟩
  have sz : wz.heap.size = B0 + 6 := by rw [← hwz]; simp [s3]
  rw [hwz] at k4 x3 x4 x5 ⊢
  have hz : wz.heap.size = w.heap.size + 6 := by rw [sz, hB0]
  have kz := k3.trans k4
  have h0 : LI w wz F p q g s k b L got of kn none 0 0 [] got := ⟨hS.keep kz, hR.keep kz, hR.lt, hq, hS.lt, RelI.start g s k b L got, OwnRows.nilR _ _, fun r hr => by simp at hr, Turned.of_keep kz,
    by rw [hB0]; exact (k4.block _ (by omega)).trans x0, by rw [hB0]; exact (k4.block _ (by omega)).trans x1, by rw [hB0]; exact (k4.block _ (by omega)).trans x2, by rw [hB0]; exact x3, by rw [hB0]; exact x4, by rw [hB0]; exact x5, by omega⟩
  have H0 := Lib.hid h0
  clear h0 x0 x1 x2 x3 x4 x5 y0 hwz hw3 k3 k4 kz hS3 him c5 hrn hS hR
  refine wpIn_range_phases rfl (by omega) (gf := 27) (bd := #[]) (lb := #[.pointer (some ⟨B0 + 4, 0, none⟩), .pointer (some ⟨B0 + 5, 0, none⟩)]) ?hg trivial (enters_of Try.func27 (by kernel_rfl) rfl) (ready_any (F := F) (p := p) (q := q) (g := g) (s := s) (k := k) (b := b) (of := of) (L := L) (kn := kn) _ wz.heap.size (B0 + 4) (B0 + 5) got (by omega) (fun n W => ∃ A m c rs, LI w W F p q g s k b L got of kn A m c rs n) ?hB ?hJ ?hsz) (fun _ => rfl) (fun cc W => cc = .ret ∧ ∃ A m c rs n, LT w W F p q g s k b L got of kn A m c rs n true) ?h0 ?h1 ?h2 ?h3 ?hx ?b ?assign ?body ?done ?stop
  case hg => simp [s3, go_sem]
  case hB =>
    rintro n W ⟨A, m, c, rs, h⟩
    have h := h.box
    rw [hB0] at h
    exact h
  case hJ =>
    rintro n W W' ⟨A, m, c, rs, h⟩ kp
    exact ⟨A, m, c, rs, h.keep kp⟩
  case hsz =>
    rintro n W ⟨A, m, c, rs, h⟩
    rw [hz]; exact h.sz
  case h0 => exact fun V kp => ⟨_, _, _, _, H0.out.keep kp⟩
  case h1 =>
    rintro x W m o o' ⟨⟨A, r, c, rs, h⟩, h1, h2, h3, h4⟩ hm hb hc
    rw [hz] at hm
    refine ⟨⟨A, r, c, rs, h.abide hm hb hc⟩, h1, h2, h3, h4.turned (turned_putObj W m o') fun x e => ?_⟩
    obtain ⟨-, cur, h5⟩ := ownblock_cells h4.1 e
    exact ne_of_cells hb hc h5
  case h2 =>
    rintro x W m o o' ⟨A, r, c, rs, h⟩ hm hb hc
    exact ⟨A, r, c, rs, h.abide (by omega) hb hc⟩
  case h3 =>
    rintro W m o o' ⟨n, ⟨A, r, c, rs, h⟩, h1⟩ hm hb hc
    exact ⟨n, ⟨A, r, c, rs, h.abide (by omega) hb hc⟩, h1⟩
  case hx =>
    rintro cc W m o o' ⟨rfl, A, r, c, rs, n, h⟩ hm hb hc
    exact ⟨rfl, A, r, c, rs, n, h.abide (by omega) hb hc⟩
  case assign =>
    intro l x W K hK
    simp only [Array.zip_eq_zipWith, List.zipWith_toArray, List.zipWith_cons_cons, List.zipWith_nil_right, List.foldl_toArray, List.foldl_cons, List.foldl_nil, List.setIfInBounds_toArray, List.set_cons_zero, List.set_cons_succ]
    gi_wp2
    exact hK
  case body =>
    rintro l ⟨n, A5, r5, c5, V5, e5⟩ W ⟨⟨A, m, c, rs, hI⟩, hrd, he, hxs, ho⟩ hge
    simp only at hI hrd he hxs ho
    subst hxs
    subst he
    rw [hz] at ho
    have HI := Lib.hid hI
    have HO := Lib.hid ho
    have HRD := Lib.hid hrd
    clear hI ho hrd
    have y0 : W.cell? ⟨B0, 0, none⟩ = some (.pointer (some ⟨q, 0, none⟩)) := by rw [← hB0]; exact HI.out.b0.cell
    have y3 : W.cell? ⟨B0 + 3, 0, none⟩ = some (.slice A m c) := by rw [← hB0]; exact HI.out.b3.cell
    obtain ⟨te, hte⟩ : ∃ v, takeE g s (symN g (L n)) = v := ⟨_, rfl⟩
    obtain ⟨V, hV⟩ : ∃ v, takeV g s (symN g (L n)) = v := ⟨_, rfl⟩
    rw [hV] at HO
    rw [hte]
    have HTE := Lib.hid hte
    have HV := Lib.hid hV
    clear hte hV
    by_cases hok : te = 0
    · subst hok
      have c2 := HI.out.sk.c2
      have hn16 := HI.out.few
      have hge2 : w.heap.size + 6 ≤ W.heap.size := HI.out.sz
      obtain ⟨gp, hgp⟩ : ∃ v, n + 1 = v := ⟨_, rfl⟩
      have HG := Lib.hid hgp
      have htop : n < topN := rdy_top HRD.out
      have g1 : (n : Int) + 1 = (gp : Int) := by omega
      have g2 : IntKind.u64.wrap (gp : Int) = (gp : Int) := IntWalk.u64_in _ (by unfold topN at htop; omega)
      have g3 : IntKind.u64.wrap ((n : Int) + 1) = (gp : Int) := by rw [g1]; exact g2
      clear hgp htop
      gi_wp2_with (gi_at_builtin; refine wpListIn_append_row rfl _ _ 31 rfl ⟨A5, r5, c5, V⟩ Try.underlying31 infoRow rfl (HI.out.own.alloc _) rfl (by rw [World.cell?_alloc_at _ _ _ _ (by simp)]; rfl) (by omega) (by simp; omega) ?_; intro A9 c9 w9 hown' hgrow; have kT : Turned (fun a => (Value.slice A m c).ownBlock = some a) W w9 := (Turned.of_keep (F := fun a => (Value.slice A m c).ownBlock = some a) ((Keep.refl W).alloc _ _)).trans (Turned.of_grown (F := fun a => (Value.slice A m c).ownBlock = some a) hgrow fun i e => e) fun i e => Or.inl e; obtain ⟨f1, f2, f3, f4, f5, f6, f7⟩ := HI.out.cells kT; rw [hB0] at f1 f2 f5 f6 f7)
      have hm := HI.out.more (r := ⟨A5, r5, c5, V⟩) HRD.out HTE.out HV.out.symm HO.out hown' kT
      have hk := HI.out.kf kT (.slice A9 (m + 1) c9) (.int .u64 ((n + 1 : Nat) : Int)) wz.heap.size
      rw [HG.out] at hm hk
      rw [hB0] at hm hk
      refine ⟨hk, ?_⟩
      show ∃ A m c rs, LI w _ F p q g s k b L got of kn A m c rs (n + 1)
      rw [HG.out]
      exact ⟨_, _, _, _, hm⟩
    · have hb0 : (te == 0) = false := by rw [beq_eq_false_iff_ne]; exact hok
      have hb1 : (te != 0) = true := by rw [bne, hb0]; rfl
      have z5 := HI.out.sk.free 5
      have y5 := HI.out.sk.c5
      have n1 : ¬ q = B0 + 1 := by have := HI.out.ql; omega
      have n1' : ¬ B0 + 1 = q := by omega
      have n2 : ¬ q = B0 + 1 + 1 := by have := HI.out.ql; omega
      have n2' : ¬ B0 + 1 + 1 = q := by omega
      have n3 : ¬ q = B0 + 3 := by have := HI.out.ql; omega
      have n3' : ¬ B0 + 3 = q := by omega
      have z1 : W.frozen? ⟨B0 + 1, 0, none⟩ = false := by rw [← hB0]; exact HI.out.b1.frozen
      have y1 : W.cell? ⟨B0 + 1, 0, none⟩ = some (.slice none 0 0) := by rw [← hB0]; exact HI.out.b1.cell
      have z2 : W.frozen? ⟨B0 + 1 + 1, 0, none⟩ = false := by rw [← hB0]; exact HI.out.b2.frozen
      have y2 : W.cell? ⟨B0 + 1 + 1, 0, none⟩ = some (.int .i64 0) := by rw [← hB0]; exact HI.out.b2.cell
      gi_wp2
      have hm := HI.out.broke HRD.out (by rw [HTE.out]; exact hok)
      have hk := HI.out.kfb (.bool true) (.slice A m c) (.int .i64 5) wz.heap.size
      rw [hB0] at hm hk
      exact ⟨hk, rfl, _, _, _, _, _, hm⟩
  case done =>
    rintro D W hD ⟨n, ⟨A, m, c, rs, hI⟩, hrd⟩ hK
    have HI := Lib.hid hI
    have HRD := Lib.hid hrd
    have HK := Lib.hid hK
    clear hI hrd hK
    have y3 : W.cell? ⟨B0 + 3, 0, none⟩ = some (.slice A m c) := by rw [← hB0]; exact HI.out.b3.cell
    have z1 : W.frozen? ⟨B0 + 1, 0, none⟩ = false := by rw [← hB0]; exact HI.out.b1.frozen
    have y1 : W.cell? ⟨B0 + 1, 0, none⟩ = some (.slice none 0 0) := by rw [← hB0]; exact HI.out.b1.cell
    have z2 : W.frozen? ⟨B0 + 1 + 1, 0, none⟩ = false := by rw [← hB0]; exact HI.out.b2.frozen
    have y2 : W.cell? ⟨B0 + 1 + 1, 0, none⟩ = some (.int .i64 0) := by rw [← hB0]; exact HI.out.b2.cell
    gi_wp2
    have hK2 : ((W.setCell ⟨B0 + 1, 0, none⟩ (.slice A m c)).setCell ⟨B0 + 1 + 1, 0, none⟩ (.int .i64 0)).heap[D]? = some (.deferred (some [])) := (Below.heap_setCell _ _ _ D (by simp; omega)).trans ((Below.heap_setCell _ _ _ D (by simp; omega)).trans HK.out)
    have hT := HI.out.told HRD.out
    rw [hB0] at hT
    have hT2 := LT.abide (o' := .deferred none) hT (by omega) hK2 rfl
    have b1 := hT2.b1.cell
    have b2 := hT2.b2.cell
    rw [hB0] at b1 b2
    refine ⟨by simp, .inl ⟨_, _, rfl, run_takeDeferred hK2, ?_⟩⟩
    exact ⟨_, results_two rfl _ _ _ _ _ _ rfl rfl b1 b2 (by simp [isAgg, go_sem, Try.underlying31]) (by simp [isAgg, go_sem, Try.underlying24]), hT2.out⟩
  case stop =>
    rintro D cc W hD ⟨rfl, A, m, c, rs, n, hT⟩ hK
    have hT2 := LT.abide (o' := .deferred none) hT (by omega) hK rfl
    have b1 := hT2.b1.cell
    have b2 := hT2.b2.cell
    rw [hB0] at b1 b2
    have HT := Lib.hid hT2
    clear hT hT2
    gi_wp2
    refine ⟨by simp, .inl ⟨_, _, rfl, run_takeDeferred hK, ?_⟩⟩
    exact ⟨_, results_two rfl _ _ _ _ _ _ rfl rfl b1 b2 (by simp [isAgg, go_sem, Try.underlying31]) (by simp [isAgg, go_sem, Try.underlying24]), HT.out.out⟩
end
end Go.Proofs.Ytgelalbmhllccaa
/- The landed sink: its other calls. -/
namespace Go.Proofs.Ytgelalbmhllccaa
open Go.RowKit Lin
set_option linter.unusedVariables false
set_option linter.unusedSimpArgs false
section
variable {w : World} {q got of : Nat} {g s : Int} {kn br : Bool}
set_option maxRecDepth 100000 in
theorem lsnew_in (g s : Int) (n : Nat) (hm : MayG g s) (hn : n ≤ topN) (w : World) :
    Calls Try.prog 5 #[.int .i64 g, .int .i64 s, .int .u64 (n : Int)] w fun e w' => e = .returned (.tuple #[.pointer (some ⟨w.heap.size, 0, none⟩), .int .i64 0]) ∧ SnkR w' w.heap.size g s n 0 false false ∧ Keep w w' := by
  have HM : Hid (MayG g s ∧ n ≤ topN) := ⟨hm, hn⟩
  have HR := Lib.hid (proom_any g s w)
  have e0 : roomE g s = 0 := if_pos hm
  have hn1 : ¬ (1099511627776 : Int) < (n : Int) := by unfold topN at hn; omega
  have hn2 : decide ((1099511627776 : Int) < (n : Int)) = false := decide_eq_false hn1
  rw [e0] at HR
  clear hm hn e0
  go_enter Try.func5, Try.ntmps5
  go_wp2_with fail
  refine HR.out.mono ?_
  rintro e w1 ⟨rfl, rfl⟩
  go_wp2_with fail
  go_ret2
  exact ⟨rfl, ⟨heap_alloc_new w _, HM.out.1, HM.out.2⟩, (Keep.refl w).alloc _ _⟩
set_option maxRecDepth 100000 in
theorem lsnew_out (g s : Int) (n : Nat) (hb : ¬ MayG g s ∨ topN < n) (w : World) :
    Calls Try.prog 5 #[.int .i64 g, .int .i64 s, .int .u64 (n : Int)] w fun e w' => e = .returned (.tuple #[.pointer none, .int .i64 1]) ∧ w' = w := by
  by_cases hm : MayG g s
  · have HR := Lib.hid (proom_any g s w)
    have e0 : roomE g s = 0 := if_pos hm
    have hn1 : (1099511627776 : Int) < (n : Int) := by
      have h := hb.resolve_left (fun h => h hm)
      unfold topN at h; omega
    have hn2 : decide ((1099511627776 : Int) < (n : Int)) = true := decide_eq_true hn1
    rw [e0] at HR
    clear hm hb e0
    go_enter Try.func5, Try.ntmps5
    go_wp2_with fail
    refine HR.out.mono ?_
    rintro e w1 ⟨rfl, rfl⟩
    go_wp2_with fail
    go_ret2
    exact ⟨rfl, rfl⟩
  · have HR := Lib.hid (proom_any g s w)
    have e0 : roomE g s = 1 := if_neg hm
    rw [e0] at HR
    clear hm hb e0
    go_enter Try.func5, Try.ntmps5
    go_wp2_with fail
    refine HR.out.mono ?_
    rintro e w1 ⟨rfl, rfl⟩
    go_wp2_with fail
    go_ret2
    exact ⟨rfl, rfl⟩
/-- What Total tells, and leaves. -/
def ltotE (got of n : Nat) (kn : Bool) : Int := if n < got ∨ topN < n then 1 else if kn = true ∧ of ≠ n then 9 else 0
def ltotOf (got of n : Nat) (kn : Bool) : Nat := if ltotE got of n kn = 0 then n else of
def ltotKn (got of n : Nat) (kn : Bool) : Bool := if ltotE got of n kn = 0 then true else kn
set_option maxRecDepth 100000 in
set_option maxHeartbeats 2000000 in
theorem ltotal_any (h : SnkR w q g s got of kn br) (n : Nat) (hn : n < 18446744073709551616) :
    Calls Try.prog 8 #[.pointer (some ⟨q, 0, none⟩), .int .u64 (n : Int)] w fun e w' => e = .returned (.int .i64 (ltotE got of n kn)) ∧ SnkR w' q g s got (ltotOf got of n kn) (ltotKn got of n kn) br ∧ Turned (fun a => a = q) w w' := by
  have H := Lib.hid h
  have c2 := h.c2
  have c3 := h.c3
  have c4 := h.c4
  have z3 := h.free 3
  have z4 := h.free 4
  have HIM := Lib.hid (ismade_any h)
  clear h
  by_cases h1 : n < got
  · have e : ltotE got of n kn = 1 := if_pos (Or.inl h1)
    rw [ltotOf, ltotKn, e]
    have d1 : (n : Int) < (got : Int) := by omega
    have d2 : decide ((n : Int) < (got : Int)) = true := decide_eq_true d1
    clear e h1
    go_enter Try.func8, Try.ntmps8
    go_wp2_with fail
    refine HIM.out.mono ?_
    rintro e w1 ⟨rfl, hw1⟩
    obtain rfl : w = w1 := hw1.symm
    go_wp2_with fail
    go_ret
    exact ⟨rfl, H.out, Turned.refl _ _⟩
  · have d1 : ¬ (n : Int) < (got : Int) := by omega
    have d2 : decide ((n : Int) < (got : Int)) = false := decide_eq_false d1
    by_cases h2 : topN < n
    · have e : ltotE got of n kn = 1 := if_pos (Or.inr h2)
      rw [ltotOf, ltotKn, e]
      have d3 : (1099511627776 : Int) < (n : Int) := by unfold topN at h2; omega
      have d4 : decide ((1099511627776 : Int) < (n : Int)) = true := decide_eq_true d3
      clear e h1 h2
      go_enter Try.func8, Try.ntmps8
      go_wp2_with fail
      refine HIM.out.mono ?_
      rintro e w1 ⟨rfl, hw1⟩
      obtain rfl : w = w1 := hw1.symm
      go_wp2_with fail
      go_ret
      exact ⟨rfl, H.out, Turned.refl _ _⟩
    · have d3 : ¬ (1099511627776 : Int) < (n : Int) := by unfold topN at h2; omega
      have d4 : decide ((1099511627776 : Int) < (n : Int)) = false := decide_eq_false d3
      have hlow : ¬ (n < got ∨ topN < n) := by omega
      have fin : ∀ (k0 : Bool), SnkR w q g s got of k0 br → SnkR ((w.setCell ⟨q, 3, none⟩ (.int .u64 (n : Int))).setCell ⟨q, 4, none⟩ (.bool true)) q g s got n true br ∧ Turned (fun a => a = q) w ((w.setCell ⟨q, 3, none⟩ (.int .u64 (n : Int))).setCell ⟨q, 4, none⟩ (.bool true)) ∧ (w.setCell ⟨q, 3, none⟩ (.int .u64 (n : Int))).frozen? ⟨q, 4, none⟩ = false ∧ (w.setCell ⟨q, 3, none⟩ (.int .u64 (n : Int))).cell? ⟨q, 4, none⟩ = some (.bool k0) := fun k0 hh =>
        ⟨(hh.setOf n).setKn true, (Turned.set (F := fun a => a = q) w ⟨q, 3, none⟩ _ rfl).trans (Turned.set (F := fun a => a = q) _ ⟨q, 4, none⟩ _ rfl) fun j e => Or.inl e, (hh.setOf n).free 4, (hh.setOf n).c4⟩
      cases kn with
      | false =>
        have e : ltotE got of n false = 0 := by rw [ltotE, if_neg hlow, if_neg (by simp)]
        rw [ltotOf, ltotKn, e]
        clear e h1 h2 hlow
        obtain ⟨f1, f2, f3, f4⟩ := fin _ H.out
        have HF := Lib.hid (And.intro f1 f2)
        clear f1 f2 fin
        go_enter Try.func8, Try.ntmps8
        go_wp2_with fail
        refine HIM.out.mono ?_
        rintro e w1 ⟨rfl, hw1⟩
        obtain rfl : w = w1 := hw1.symm
        go_wp2_with fail
        go_ret
        exact ⟨rfl, HF.out.1, HF.out.2⟩
      | true =>
        by_cases h3 : of = n
        · have e : ltotE got of n true = 0 := by rw [ltotE, if_neg hlow, if_neg (by simp [h3])]
          rw [ltotOf, ltotKn, e]
          have d5 : ((n : Int) != (of : Int)) = false := by simp [h3]
          have d6 : ((n : Int) == (of : Int)) = true := by simp [h3]
          clear e h1 h2 hlow h3
          obtain ⟨f1, f2, f3, f4⟩ := fin _ H.out
          have HF := Lib.hid (And.intro f1 f2)
          clear f1 f2 fin
          go_enter Try.func8, Try.ntmps8
          go_wp2_with fail
          refine HIM.out.mono ?_
          rintro e w1 ⟨rfl, hw1⟩
          obtain rfl : w = w1 := hw1.symm
          go_wp2_with fail
          go_ret
          exact ⟨rfl, HF.out.1, HF.out.2⟩
        · have e : ltotE got of n true = 9 := by rw [ltotE, if_neg hlow, if_pos ⟨rfl, h3⟩]
          rw [ltotOf, ltotKn, e]
          have d5 : ((n : Int) != (of : Int)) = true := by rw [bne_iff_ne]; omega
          have d6 : ((n : Int) == (of : Int)) = false := by rw [beq_eq_false_iff_ne]; omega
          clear e h1 h2 hlow h3 fin
          go_enter Try.func8, Try.ntmps8
          go_wp2_with fail
          refine HIM.out.mono ?_
          rintro e w1 ⟨rfl, hw1⟩
          obtain rfl : w = w1 := hw1.symm
          go_wp2_with fail
          go_ret
          exact ⟨rfl, H.out, Turned.refl _ _⟩
set_option maxRecDepth 100000 in
theorem ldelivered_any (h : SnkR w q g s got of kn br) :
    Calls Try.prog 13 #[.pointer (some ⟨q, 0, none⟩)] w fun e w' => e = .returned (.int .u64 (got : Int)) ∧ w = w' := by
  have c2 := h.c2
  have HIM := Lib.hid (ismade_any h)
  clear h
  go_enter Try.func13, Try.ntmps13
  go_wp2_with fail
  refine HIM.out.mono ?_
  rintro e w1 ⟨rfl, hw1⟩
  obtain rfl : w = w1 := hw1.symm
  go_wp2_with fail
  go_ret
  exact ⟨rfl, rfl⟩
set_option maxRecDepth 100000 in
theorem lbroken_any (h : SnkR w q g s got of kn br) :
    Calls Try.prog 11 #[.pointer (some ⟨q, 0, none⟩)] w fun e w' => e = .returned (.bool br) ∧ w = w' := by
  have c5 := h.c5
  have HIM := Lib.hid (ismade_any h)
  clear h
  go_enter Try.func11, Try.ntmps11
  go_wp2_with fail
  refine HIM.out.mono ?_
  rintro e w1 ⟨rfl, hw1⟩
  obtain rfl : w = w1 := hw1.symm
  go_wp2_with fail
  go_ret
  exact ⟨rfl, rfl⟩
set_option maxRecDepth 100000 in
theorem lknown_any (h : SnkR w q g s got of kn br) :
    Calls Try.prog 12 #[.pointer (some ⟨q, 0, none⟩)] w fun e w' => e = .returned (.tuple #[.int .u64 (of : Int), .bool kn]) ∧ ∃ m, w' = w.drewN m := by
  have c3 := h.c3
  have c4 := h.c4
  have HIM := Lib.hid (ismade_any h)
  clear h
  go_enter Try.func12, Try.ntmps12
  go_wp2_with fail
  refine HIM.out.mono ?_
  rintro e w1 ⟨rfl, hw1⟩
  obtain rfl : w = w1 := hw1.symm
  go_wp2_with fail
  go_quiet (fail)
  go_wp2_with fail
  go_ret2
  exact ⟨rfl, _, rfl⟩
theorem SnkR.drewN (h : SnkR w q g s got of kn br) (m : Nat) : SnkR (w.drewN m) q g s got of kn br := ⟨h.block, h.may, h.top⟩
set_option maxRecDepth 100000 in
theorem ldone_any (h : SnkR w q g s got of kn br) :
    Calls Try.prog 9 #[.pointer (some ⟨q, 0, none⟩)] w fun e w' => e = .returned (.bool (kn && decide (of = got))) ∧ ∃ m, w' = w.drewN m := by
  have HK := Lib.hid (lknown_any h)
  have hd : ∀ m, Calls Try.prog 13 #[.pointer (some ⟨q, 0, none⟩)] (w.drewN m) fun e w' => e = .returned (.int .u64 (got : Int)) ∧ w.drewN m = w' := fun m => ldelivered_any (h.drewN m)
  have HD := Lib.hid hd
  have dd : decide (of = got) = ((of : Int) == (got : Int)) := by
    by_cases e : of = got
    · rw [decide_eq_true e, e]; simp
    · rw [decide_eq_false e]; symm; rw [beq_eq_false_iff_ne]; omega
  rw [dd]
  clear dd h hd
  go_enter Try.func9, Try.ntmps9
  go_wp2_with fail
  refine HK.out.mono ?_
  rintro e w1 ⟨rfl, m, rfl⟩
  cases kn with
  | false =>
    go_wp2_with fail
    go_ret
    exact ⟨rfl, _, rfl⟩
  | true =>
    go_wp2_with fail
    refine (HD.out m).mono ?_
    rintro e w1 ⟨rfl, rfl⟩
    go_wp2_with fail
    go_ret
    exact ⟨by first | rfl | simp, _, rfl⟩
end
section
variable {w : World} {q p got of : Nat} {g s : Int} {kn br : Bool}
theorem rel_boxes (w : World) (u : Value) {B0 : Nat} (hB0 : w.heap.size = B0) :
    Keep w (((w.alloc (.cells #[u] 23)).alloc (.cells #[.slice none 0 0] 31)).alloc (.cells #[.int .i64 0] 24)) ∧
    (((w.alloc (.cells #[u] 23)).alloc (.cells #[.slice none 0 0] 31)).alloc (.cells #[.int .i64 0] 24)).heap[B0]? = some (.cells #[u] 23 (0, 0)) ∧
    (((w.alloc (.cells #[u] 23)).alloc (.cells #[.slice none 0 0] 31)).alloc (.cells #[.int .i64 0] 24)).heap[B0 + 1]? = some (.cells #[.slice none 0 0] 31 (0, 0)) ∧
    (((w.alloc (.cells #[u] 23)).alloc (.cells #[.slice none 0 0] 31)).alloc (.cells #[.int .i64 0] 24)).heap[B0 + 1 + 1]? = some (.cells #[.int .i64 0] 24 (0, 0)) := by
  refine ⟨(((Keep.refl w).alloc _ _).alloc _ _).alloc _ _, ?_, ?_, ?_⟩
  · rw [← hB0]; exact (Below.heap_alloc _ _ _ (by simp; omega)).trans ((Below.heap_alloc _ _ _ (by simp)).trans (heap_alloc_new w _))
  · have h := heap_alloc_new (w.alloc (.cells #[u] 23)) (.cells #[.slice none 0 0] 31)
    rw [World.size_alloc] at h
    rw [← hB0]; exact (Below.heap_alloc _ _ _ (by simp)).trans h
  · have h := heap_alloc_new ((w.alloc (.cells #[u] 23)).alloc (.cells #[.slice none 0 0] 31)) (.cells #[.int .i64 0] 24)
    rw [World.size_alloc, World.size_alloc] at h
    rw [← hB0]; exact h
set_option maxRecDepth 100000 in
theorem krel_br (h : SnkR w q g s got of kn true) :
    Calls Try.prog 7 #[.pointer (some ⟨q, 0, none⟩), .pointer (some ⟨p, 0, none⟩)] w fun e w' => e = .returned (.tuple #[.slice none 0 0, .int .i64 5]) ∧ Keep w w' := by
  refine (callsIn_wide (n := 8)).1 ?_
  refine callsIn_of_wp_marks Try.func7 rfl trivial ?_ rfl
  simp only [Try.ntmps7, List.size_toArray, List.length_cons, List.length_nil, Nat.reduceAdd, Nat.reduceSub, Array.replicate_succ, Array.replicate_zero, List.push_toArray, List.append_toArray, List.nil_append, List.cons_append]
  obtain ⟨B0, hB0⟩ : ∃ v, w.heap.size = v := ⟨_, rfl⟩
  obtain ⟨k3, x0, x1, x2⟩ := rel_boxes w (.pointer (some ⟨q, 0, none⟩)) hB0
  obtain ⟨w3, hw3⟩ : ∃ v, ((w.alloc (.cells #[.pointer (some ⟨q, 0, none⟩)] 23)).alloc (.cells #[.slice none 0 0] 31)).alloc (.cells #[.int .i64 0] 24) = v := ⟨_, rfl⟩
  rw [hw3] at k3 x0 x1 x2
  have hS3 := h.keep k3
  have him := ismade_any hS3
  have c5 := hS3.c5
  clear h hS3
  have y0 : w3.cell? ⟨B0, 0, none⟩ = some (.pointer (some ⟨q, 0, none⟩)) := cell_of_row _ _ _ _ _ _ x0
  have y1 : w3.cell? ⟨B0 + 1, 0, none⟩ = some (.slice none 0 0) := cell_of_row _ _ _ _ _ _ x1
  have y2 : w3.cell? ⟨B0 + 1 + 1, 0, none⟩ = some (.int .i64 0) := cell_of_row _ _ _ _ _ _ x2
  have z1 : w3.frozen? ⟨B0 + 1, 0, none⟩ = false := by simp [World.frozen?, x1]
  have z2 : w3.frozen? ⟨B0 + 1 + 1, 0, none⟩ = false := by simp [World.frozen?, x2]
  have t1 : Turned (fun a => a = B0 + 1) w3 (w3.setCell ⟨B0 + 1, 0, none⟩ (.slice none 0 0)) := Turned.set (F := fun a => a = B0 + 1) w3 ⟨B0 + 1, 0, none⟩ _ rfl
  have X2 := boxed_later (B := B0 + 1 + 1) x2 t1 (by omega)
  have K3 : Hid (Keep w ((w3.setCell ⟨B0 + 1, 0, none⟩ (.slice none 0 0)).setCell ⟨B0 + 1 + 1, 0, none⟩ (.int .i64 5))) := (k3.setCell (a := ⟨B0 + 1, 0, none⟩) (by show w.heap.size ≤ B0 + 1; omega) _).setCell (a := ⟨B0 + 1 + 1, 0, none⟩) (by show w.heap.size ≤ B0 + 1 + 1; omega) _
  have b1 := (boxed_later (boxed_put (B := B0 + 1) x1 (.slice none 0 0)) (Turned.set (F := fun a => a = B0 + 1 + 1) _ ⟨B0 + 1 + 1, 0, none⟩ (.int .i64 5) rfl) (by omega)).cell
  have b2 := (boxed_put X2 (.int .i64 5)).cell
  clear x0 x1 x2 k3 X2 t1
  gi_wp2_with (refine ⟨trivial, ?_⟩; gi_at_call 19; refine (callsIn_wide.2 him).mono ?_; rintro e w4 ⟨rfl, h4⟩; rw [h4]; clear h4)
  exact ⟨_, results_two rfl _ _ _ _ _ _ rfl rfl b1 b2 (by simp [isAgg, go_sem, Try.underlying31]) (by simp [isAgg, go_sem, Try.underlying24]), rfl, K3.out⟩
set_option maxRecDepth 100000 in
theorem krel_nil (h : SnkR w q g s got of kn br) :
    Calls Try.prog 7 #[.pointer (some ⟨q, 0, none⟩), .pointer none] w fun e w' => e = .returned (.tuple #[.slice none 0 0, .int .i64 2]) ∧ Keep w w' := by
  refine (callsIn_wide (n := 8)).1 ?_
  refine callsIn_of_wp_marks Try.func7 rfl trivial ?_ rfl
  simp only [Try.ntmps7, List.size_toArray, List.length_cons, List.length_nil, Nat.reduceAdd, Nat.reduceSub, Array.replicate_succ, Array.replicate_zero, List.push_toArray, List.append_toArray, List.nil_append, List.cons_append]
  obtain ⟨B0, hB0⟩ : ∃ v, w.heap.size = v := ⟨_, rfl⟩
  obtain ⟨k3, x0, x1, x2⟩ := rel_boxes w (.pointer (some ⟨q, 0, none⟩)) hB0
  obtain ⟨w3, hw3⟩ : ∃ v, ((w.alloc (.cells #[.pointer (some ⟨q, 0, none⟩)] 23)).alloc (.cells #[.slice none 0 0] 31)).alloc (.cells #[.int .i64 0] 24) = v := ⟨_, rfl⟩
  rw [hw3] at k3 x0 x1 x2
  have him := ismade_any (h.keep k3)
  clear h
  have y0 : w3.cell? ⟨B0, 0, none⟩ = some (.pointer (some ⟨q, 0, none⟩)) := cell_of_row _ _ _ _ _ _ x0
  have y1 : w3.cell? ⟨B0 + 1, 0, none⟩ = some (.slice none 0 0) := cell_of_row _ _ _ _ _ _ x1
  have y2 : w3.cell? ⟨B0 + 1 + 1, 0, none⟩ = some (.int .i64 0) := cell_of_row _ _ _ _ _ _ x2
  have z1 : w3.frozen? ⟨B0 + 1, 0, none⟩ = false := by simp [World.frozen?, x1]
  have z2 : w3.frozen? ⟨B0 + 1 + 1, 0, none⟩ = false := by simp [World.frozen?, x2]
  have t1 : Turned (fun a => a = B0 + 1) w3 (w3.setCell ⟨B0 + 1, 0, none⟩ (.slice none 0 0)) := Turned.set (F := fun a => a = B0 + 1) w3 ⟨B0 + 1, 0, none⟩ _ rfl
  have X2 := boxed_later (B := B0 + 1 + 1) x2 t1 (by omega)
  have K3 : Hid (Keep w ((w3.setCell ⟨B0 + 1, 0, none⟩ (.slice none 0 0)).setCell ⟨B0 + 1 + 1, 0, none⟩ (.int .i64 2))) := (k3.setCell (a := ⟨B0 + 1, 0, none⟩) (by show w.heap.size ≤ B0 + 1; omega) _).setCell (a := ⟨B0 + 1 + 1, 0, none⟩) (by show w.heap.size ≤ B0 + 1 + 1; omega) _
  have b1 := (boxed_later (boxed_put (B := B0 + 1) x1 (.slice none 0 0)) (Turned.set (F := fun a => a = B0 + 1 + 1) _ ⟨B0 + 1 + 1, 0, none⟩ (.int .i64 2) rfl) (by omega)).cell
  have b2 := (boxed_put X2 (.int .i64 2)).cell
  clear x0 x1 x2 k3 X2 t1
  gi_wp2_with (refine ⟨trivial, ?_⟩; gi_at_call 19; refine (callsIn_wide.2 him).mono ?_; rintro e w4 ⟨rfl, h4⟩; rw [h4]; clear h4)
  exact ⟨_, results_two rfl _ _ _ _ _ _ rfl rfl b1 b2 (by simp [isAgg, go_sem, Try.underlying31]) (by simp [isAgg, go_sem, Try.underlying24]), rfl, K3.out⟩
set_option maxRecDepth 100000 in
theorem krel_none (w : World) (u : Value) :
    Calls Try.prog 7 #[.pointer none, u] w fun e w' => e = .returned (.tuple #[.slice none 0 0, .int .i64 2]) ∧ Keep w w' := by
  refine (callsIn_wide (n := 8)).1 ?_
  refine callsIn_of_wp_marks Try.func7 rfl trivial ?_ rfl
  simp only [Try.ntmps7, List.size_toArray, List.length_cons, List.length_nil, Nat.reduceAdd, Nat.reduceSub, Array.replicate_succ, Array.replicate_zero, List.push_toArray, List.append_toArray, List.nil_append, List.cons_append]
  obtain ⟨B0, hB0⟩ : ∃ v, w.heap.size = v := ⟨_, rfl⟩
  obtain ⟨k3, x0, x1, x2⟩ := rel_boxes w (.pointer none) hB0
  obtain ⟨w3, hw3⟩ : ∃ v, ((w.alloc (.cells #[.pointer none] 23)).alloc (.cells #[.slice none 0 0] 31)).alloc (.cells #[.int .i64 0] 24) = v := ⟨_, rfl⟩
  rw [hw3] at k3 x0 x1 x2
  have him := ismade_none w3
  have y0 : w3.cell? ⟨B0, 0, none⟩ = some (.pointer none) := cell_of_row _ _ _ _ _ _ x0
  have y1 : w3.cell? ⟨B0 + 1, 0, none⟩ = some (.slice none 0 0) := cell_of_row _ _ _ _ _ _ x1
  have y2 : w3.cell? ⟨B0 + 1 + 1, 0, none⟩ = some (.int .i64 0) := cell_of_row _ _ _ _ _ _ x2
  have z1 : w3.frozen? ⟨B0 + 1, 0, none⟩ = false := by simp [World.frozen?, x1]
  have z2 : w3.frozen? ⟨B0 + 1 + 1, 0, none⟩ = false := by simp [World.frozen?, x2]
  have t1 : Turned (fun a => a = B0 + 1) w3 (w3.setCell ⟨B0 + 1, 0, none⟩ (.slice none 0 0)) := Turned.set (F := fun a => a = B0 + 1) w3 ⟨B0 + 1, 0, none⟩ _ rfl
  have X2 := boxed_later (B := B0 + 1 + 1) x2 t1 (by omega)
  have K3 : Hid (Keep w ((w3.setCell ⟨B0 + 1, 0, none⟩ (.slice none 0 0)).setCell ⟨B0 + 1 + 1, 0, none⟩ (.int .i64 2))) := (k3.setCell (a := ⟨B0 + 1, 0, none⟩) (by show w.heap.size ≤ B0 + 1; omega) _).setCell (a := ⟨B0 + 1 + 1, 0, none⟩) (by show w.heap.size ≤ B0 + 1 + 1; omega) _
  have b1 := (boxed_later (boxed_put (B := B0 + 1) x1 (.slice none 0 0)) (Turned.set (F := fun a => a = B0 + 1 + 1) _ ⟨B0 + 1 + 1, 0, none⟩ (.int .i64 2) rfl) (by omega)).cell
  have b2 := (boxed_put X2 (.int .i64 2)).cell
  clear x0 x1 x2 k3 X2 t1
  gi_wp2_with (refine ⟨trivial, ?_⟩; gi_at_call 19; refine (callsIn_wide.2 him).mono ?_; rintro e w4 ⟨rfl, h4⟩; rw [h4]; clear h4)
  exact ⟨_, results_two rfl _ _ _ _ _ _ rfl rfl b1 b2 (by simp [isAgg, go_sem, Try.underlying31]) (by simp [isAgg, go_sem, Try.underlying24]), rfl, K3.out⟩
end
end Go.Proofs.Ytgelalbmhllccaa
/- Contracts of the document's own queue. -/
namespace Go.Proofs.Ytgelalbmhllccaa
open Go.RowKit
set_option linter.unusedVariables false
set_option maxRecDepth 100000 in
set_option maxHeartbeats 1000000 in
theorem rsame_any (n m ca cb : Nat) (A A' : Option Addr) (F F' : Nat → Prop) (rs rs' : List RowV) (w : World) (h : RowsIn w F A n rs) (h' : RowsIn w F' A' m rs') (hF : ∀ b, F b → b < w.heap.size) (hF' : ∀ b, F' b → b < w.heap.size) (hn : n ≤ 140737488355328) :
    Calls Try.prog 14 #[.slice A n ca, .slice A' m cb] w fun e w' => e = .returned (.bool (decide (rowsXs rs = rowsXs rs'))) ∧ ∃ k, w' = w.drewN k := by
  have H := Lib.hid h
  have H' := Lib.hid h'
  by_cases hnm : n = m
  · subst hnm
    clear h h'
    go_enter Try.func14, Try.ntmps14
    go_wp2_with fail
    go_loopw [5] (fun i wr => ∃ (j k : Nat), j ≤ n ∧ i = .int .i64 j ∧ wr = w.drewN k ∧ rowsXs (rs.take j) = rowsXs (rs'.take j)) (fun i _ => n - (intOf i).toNat)
    case atStart => exact ⟨0, 0, by omega, rfl, rfl, rfl⟩
    case round =>
      obtain ⟨j, k, hj, rfl, rfl, he⟩ := hrel
      have HE := Lib.hid he
      clear he
      by_cases hlt : j < n
      · obtain ⟨b, off, r, rfl, hb, hr, hc, hl⟩ := H.out.at_ hlt
        obtain ⟨b', off', r', rfl, hb', hr', hc', hl'⟩ := H'.out.at_ hlt
        have HR := Lib.hid hr
        have HR' := Lib.hid hr'
        have t1 := hl.str hF
        have t2 := hl'.str hF'
        have d1 : ∀ q, (w.drewN q).cell? ⟨b, off + j, none⟩ = some (.slice r.A r.n r.c) := fun _ => hc
        have d2 : ∀ q, (w.drewN q).cell? ⟨b', off' + j, none⟩ = some (.slice r'.A r'.n r'.c) := fun _ => hc'
        have e1 : (0 : Int) ≤ (j : Int) := Int.natCast_nonneg _
        have e2 : (j : Int) < (n : Int) := by omega
        have hall := hl.2.1
        have hall' := hl'.2.1
        by_cases hx : r.xs = r'.xs
        · have q0 := strN_eq hx
          have HX := Lib.hid hx
          clear hr hr' hl hl' hc hc' hall hall' hx
          go_wp2_with fail
          go_quiet (fail)
          go_wp2_with fail
          go_roundw
          case rel => exact ⟨j + 1, k + nq, by omega, by go_num, rfl, by rw [rowsXs_take HR.out, rowsXs_take HR'.out, HE.out, HX.out]⟩
          case measure => simp [intOf]; omega
        · have q0 := strN_ne hall hall' hx
          have HC : Hid (decide (rowsXs rs = rowsXs rs') = false) := by show _ = _; exact decide_eq_false (rowsXs_ne hr hr' hx)
          clear hr hr' hl hl' hc hc' hall hall' hx
          go_wp2_with fail
          go_quiet (fail)
          go_wp2_with fail
          go_ret
          exact ⟨by rw [HC.out]; rfl, _, World.drewN_drewN ..⟩
      · obtain rfl : j = n := by omega
        have HC : Hid (decide (rowsXs rs = rowsXs rs') = true) := by
          show _ = _
          have e := HE.out
          rw [List.take_of_length_le (by rw [H.out.1]; exact Nat.le_refl _), List.take_of_length_le (by rw [H'.out.1]; exact Nat.le_refl _)] at e
          exact decide_eq_true e
        go_wp2_with fail
        go_ret
        exact ⟨by rw [HC.out]; rfl, _, rfl⟩
  · have HC : Hid (decide (rowsXs rs = rowsXs rs') = false) := by
      show _ = _
      exact decide_eq_false fun e => hnm (by rw [← h.1, ← h'.1]; have := congrArg List.length e; simpa [rowsXs] using this)
    have b1 : ((n : Int) != (m : Int)) = true := by rw [bne_iff_ne]; omega
    clear h h' hnm
    go_enter Try.func14, Try.ntmps14
    go_wp2_with fail
    go_ret
    exact ⟨by rw [HC.out]; rfl, 0, rfl⟩
end Go.Proofs.Ytgelalbmhllccaa
/- What the chapter's examples say: layer 15's statements ask it first. -/
namespace Go.Proofs.Ytgelalbmhllccaa
open Go.RowKit Lin
set_option linter.unusedVariables false
set_option linter.unusedSimpArgs false
def swL1 : Nat → List (List Nat) := upd (fun _ => []) 0 [[1, 0, 0, 0, 0]]
def swL2 : Nat → List (List Nat) := upd swL1 0 [[1, 0, 0, 0, 0], [0, 1, 1, 97, 0]]
def swL3 : Nat → List (List Nat) := upd swL2 1 [[1, 0, 0, 0, 0]]
theorem sw_ins : insB 2 3 [] [1, 0, 0, 0, 0] = [[1, 0, 0, 0, 0]] ∧ insB 2 3 [[1, 0, 0, 0, 0]] [0, 1, 1, 97, 0] = [[1, 0, 0, 0, 0], [0, 1, 1, 97, 0]] := by decide +kernel
theorem sw_l1 : yTakeL 2 3 4 0 (fun _ => []) 0 2 3 ([1, 0] ++ [0, 0, 0]) = swL1 := by
  rw [yTakeL, if_pos (by decide +kernel)]
  show upd _ 0 (insB 2 3 [] [1, 0, 0, 0, 0]) = _
  rw [sw_ins.1]; rfl
theorem sw_l2 : yTakeL 2 3 4 0 swL1 0 2 3 ([0, 1] ++ [1, 97, 0]) = swL2 := by
  rw [yTakeL, if_pos (by decide +kernel)]
  show upd _ 0 (insB 2 3 [[1, 0, 0, 0, 0]] [0, 1, 1, 97, 0]) = _
  rw [sw_ins.2]; rfl
theorem sw_l3 : yTakeL 2 3 4 0 swL2 1 2 3 ([1, 0] ++ [0, 0, 0]) = swL3 := by
  rw [yTakeL, if_pos (by decide +kernel)]
  show upd _ 1 (insB 2 3 [] [1, 0, 0, 0, 0]) = _
  rw [sw_ins.1]; rfl
theorem sw_rel1 : RelT 2 3 4 0 swL3 0 [[97]] 1 false := ⟨rfl, fun i hi => by
  obtain rfl : i = 0 := by simp at hi; omega
  exact ⟨by decide +kernel, by decide +kernel, by decide +kernel⟩, fun e => (by cases e), fun _ => by decide +kernel⟩
theorem sw_rel2 : RelT 2 3 4 0 swL3 1 [] 1 false := ⟨rfl, fun i hi => by simp at hi, fun e => (by cases e), fun _ => by decide +kernel⟩
theorem two_three (w : World) (x y a b c : Nat) (h : ∀ z ∈ [x, y, a, b, c], z < 256) {w1 w2 : World} (h1 : w.alloc (.cells #[.int .u8 (x : Int), .int .u8 (y : Int)] 5) = w1) (h2 : w1.alloc (.cells #[.int .u8 (a : Int), .int .u8 (b : Int), .int .u8 (c : Int)] 5) = w2) :
    Bytes w2 w2.heap.size (some ⟨w.heap.size, 0, none⟩) 2 [x, y] ∧ Bytes w2 w2.heap.size (some ⟨w.heap.size + 1, 0, none⟩) 3 [a, b, c] ∧ Keep w w2 := by
  have o1 := Own.lit w 5 2 [x, y] #[.int .u8 (x : Int), .int .u8 (y : Int)] rfl rfl (by decide) (fun z hz => h z (by simp at hz ⊢; omega))
  have o2 := Own.lit w1 5 3 [a, b, c] #[.int .u8 (a : Int), .int .u8 (b : Int), .int .u8 (c : Int)] rfl rfl (by decide) (fun z hz => h z (by simp at hz ⊢; omega))
  rw [h1] at o1
  rw [h2] at o2
  have k1 : Keep w w1 := by rw [← h1]; exact (Keep.refl w).alloc _ _
  have k2 : Keep w1 w2 := by rw [← h2]; exact (Keep.refl w1).alloc _ _
  have s1 : w1.heap.size = w.heap.size + 1 := by rw [← h1]; simp
  rw [s1] at o2
  exact ⟨o1.bytes.keep (Nat.le_refl _) k2 |>.mono k2.size, o2.bytes, k1.trans k2⟩
theorem keep_obj {W w : World} (h : Keep W w) (o : Obj) : Keep W (w.alloc o) := Below.alloc h (Below.size h) o
theorem lies_block {w : World} {b n : Nat} {cs : Array Value} {t : TypeId} {fr : Nat × Nat} {xs : List Nat} (h : w.heap[b]? = some (.cells cs t fr)) (hc : cs = (u8s xs).toArray) (hl : xs.length = n) (hx : AllB xs) (F : Nat → Prop) (hF : F b) : LiesIn w F ⟨some ⟨b, 0, none⟩, n, n, xs⟩ := by
  refine ⟨hl, hx, Nat.le_refl _, fun _ => ⟨b, 0, rfl, hF, fun i hi => ?_⟩⟩
  have hi : i < n := hi
  rw [Nat.zero_add]
  unfold World.cell?
  rw [h, hc]
  show (u8s xs).toArray[i]? = _
  rw [List.getElem?_toArray, u8s_get, List.getElem?_eq_getElem (by omega)]
  simp [List.getD_eq_getElem?_getD, List.getElem?_eq_getElem (show i < xs.length by omega)]
theorem rows_lit1 (w : World) (t : TypeId) (r : RowV) : OwnRows (w.alloc (.cells #[r.val] t)) w.heap.size t (some ⟨w.heap.size, 0, none⟩) 1 1 [r] :=
  ⟨rfl, Or.inr ⟨w.heap.size, 1, #[r.val], rfl, Nat.le_refl _, heap_alloc_new _ _, Nat.le_refl _, by decide, rfl, rfl⟩⟩
set_option maxRecDepth 100000 in
set_option maxHeartbeats 4000000 in
theorem sink_awake (w : World) : Calls Try.prog 4 #[] w fun e w' => e = .returned (.bool true) ∧ Keep w w' := by
  go_enter Try.func4, Try.ntmps4
  go_wp2_with fail
  refine (relnew_in (g := 2) (s := 3) (k := 4) (by decide) (by decide) (by decide) (by decide) (by decide) (by decide) _).mono ?_
  rintro e w1 ⟨p, F1, rfl, r1, f1, k1⟩
  have R0 := Lib.hid r1
  have G0 := Lib.hid f1
  have K0 := Lib.hid k1
  clear r1 f1 k1
  go_wp2_with fail
  obtain ⟨wa1, hwa⟩ : ∃ v, w1.alloc (.cells #[.int .u8 1, .int .u8 0] 5) = v := ⟨_, rfl⟩
  obtain ⟨wb1, hwb⟩ : ∃ v, wa1.alloc (.cells #[.int .u8 0, .int .u8 0, .int .u8 0] 5) = v := ⟨_, rfl⟩
  have HL1 := Lib.hid (two_three w1 1 0 0 0 0 (by decide) hwa hwb)
  rw [hwa, hwb]
  clear hwa hwb
  have ht := rl_take_all (R0.out.keep HL1.out.2.2) 0 (by decide) _ _ 2 3 2 3 _ _ [1, 0] [0, 0, 0] (Nat.le_refl _) (Nat.le_refl _) HL1.out.1 HL1.out.2.1 (Nat.le_refl _) (Nat.le_refl _)
  rw [sw_l1] at ht
  refine ht.mono ?_
  clear ht
  rintro e v1 ⟨rfl, H1, r1, f1, t1⟩
  have R1 := Lib.hid r1
  have G1 : Hid (∀ x, H1 x → w.heap.size ≤ x) := fun x hx => by
    rcases f1 x hx with e | e
    · exact G0.out x e
    · have := K0.out.size; have := HL1.out.2.2.size; omega
  have K1 := Lib.hid (t1.keep (K0.out.trans HL1.out.2.2) G0.out)
  clear r1 f1 t1 R0 G0 K0 HL1
  go_wp2_with fail
  obtain ⟨wa2, hwa⟩ : ∃ v, v1.alloc (.cells #[.int .u8 0, .int .u8 1] 5) = v := ⟨_, rfl⟩
  obtain ⟨wb2, hwb⟩ : ∃ v, wa2.alloc (.cells #[.int .u8 1, .int .u8 97, .int .u8 0] 5) = v := ⟨_, rfl⟩
  have HL2 := Lib.hid (two_three v1 0 1 1 97 0 (by decide) hwa hwb)
  rw [hwa, hwb]
  clear hwa hwb
  have ht := rl_take_all (R1.out.keep HL2.out.2.2) 0 (by decide) _ _ 2 3 2 3 _ _ [0, 1] [1, 97, 0] (Nat.le_refl _) (Nat.le_refl _) HL2.out.1 HL2.out.2.1 (Nat.le_refl _) (Nat.le_refl _)
  rw [sw_l2] at ht
  refine ht.mono ?_
  clear ht
  rintro e v2 ⟨rfl, H2, r2, f2, t2⟩
  have R2 := Lib.hid r2
  have G2 : Hid (∀ x, H2 x → w.heap.size ≤ x) := fun x hx => by
    rcases f2 x hx with e | e
    · exact G1.out x e
    · have := K1.out.size; have := HL2.out.2.2.size; omega
  have K2 := Lib.hid (t2.keep (K1.out.trans HL2.out.2.2) G1.out)
  clear r2 f2 t2 R1 G1 K1 HL2
  go_wp2_with fail
  obtain ⟨wa3, hwa⟩ : ∃ v, v2.alloc (.cells #[.int .u8 1, .int .u8 0] 5) = v := ⟨_, rfl⟩
  obtain ⟨wb3, hwb⟩ : ∃ v, wa3.alloc (.cells #[.int .u8 0, .int .u8 0, .int .u8 0] 5) = v := ⟨_, rfl⟩
  have HL3 := Lib.hid (two_three v2 1 0 0 0 0 (by decide) hwa hwb)
  rw [hwa, hwb]
  clear hwa hwb
  have ht := rl_take_all (R2.out.keep HL3.out.2.2) 1 (by decide) _ _ 2 3 2 3 _ _ [1, 0] [0, 0, 0] (Nat.le_refl _) (Nat.le_refl _) HL3.out.1 HL3.out.2.1 (Nat.le_refl _) (Nat.le_refl _)
  rw [sw_l3] at ht
  refine ht.mono ?_
  clear ht
  rintro e v3 ⟨rfl, H3, r3, f3, t3⟩
  have R3 := Lib.hid r3
  have G3 : Hid (∀ x, H3 x → w.heap.size ≤ x) := fun x hx => by
    rcases f3 x hx with e | e
    · exact G2.out x e
    · have := K2.out.size; have := HL3.out.2.2.size; omega
  have K3 := Lib.hid (t3.keep (K2.out.trans HL3.out.2.2) G2.out)
  clear r3 f3 t3 R2 G2 K2 HL3
  go_wp2_with fail
  refine (lsnew_in 2 3 0 (by decide) (by decide) v3).mono ?_
  rintro e v4 ⟨rfl, s4, k4⟩
  have hq : ¬ H3 v3.heap.size := fun e => by have := R3.out.lt _ e; omega
  have HS4 := Lib.hid (And.intro s4 (And.intro hq (R3.out.keep k4)))
  have K4 := Lib.hid (K3.out.trans k4)
  have Z4 : Hid (w.heap.size ≤ v3.heap.size) := K3.out.size
  obtain ⟨q, hqn⟩ : ∃ v, v3.heap.size = v := ⟨_, rfl⟩
  simp only [hqn] at HS4 Z4 ⊢
  clear s4 k4 hq R3 K3 hqn
  go_wp2_with fail
  refine (krel_in (g := 2) (s := 3) HS4.out.1 HS4.out.2.2 HS4.out.2.1).mono ?_
  rintro e v5 ⟨A5, n5, c5, rs5, m5, br5, rfl, rt5, o5, l5, s5, y5, t5⟩
  obtain ⟨e1, rfl, rfl⟩ := rt5.only sw_rel1
  have n5e : n5 = 1 := by have h := o5.length; rw [← rowsXs_len, e1] at h; exact h.symm
  subst n5e
  have K5 := Lib.hid (t5.keep K4.out fun x e => by have := Z4.out; omega)
  have HO5 := Lib.hid (And.intro o5 (And.intro l5 (And.intro s5 (And.intro y5 (And.intro e1 t5.size)))))
  clear o5 l5 s5 y5 t5 rt5 e1
  go_wp2_with fail
  refine (krel_in (g := 2) (s := 3) HO5.out.2.2.1 HO5.out.2.2.2.1 HS4.out.2.1).mono ?_
  rintro e v6 ⟨A6, n6, c6, rs6, m6, br6, rfl, rt6, o6, l6, s6, y6, t6⟩
  obtain ⟨e1, rfl, rfl⟩ := rt6.only sw_rel2
  have n6e : n6 = 0 := by have h := o6.length; rw [← rowsXs_len, e1] at h; exact h.symm
  subst n6e
  have K6 := Lib.hid (t6.keep K5.out fun x e => by have := Z4.out; omega)
  have hA5 : RowsIn v6 (fun x => x < v6.heap.size) A5 1 rs5 := by
    have hne : ∀ x, v4.heap.size ≤ x → ¬ x = q := fun x h e => by have := HS4.out.1.lt; omega
    refine RowsIn.of_own (OwnRows.turned HO5.out.1 t6 fun x e => hne x (ownblock_cells HO5.out.1 e).1) (fun r hr => ((HO5.out.2.1 r hr).turned t6 fun x e => hne x (ownblock_cells (HO5.out.2.1 r hr).1 e).1).lies.mono fun x e => ?_) fun x e => Nat.lt_of_lt_of_le (HO5.out.1.lt x e).2 t6.size
    exact Nat.lt_of_lt_of_le ((HO5.out.2.1 r hr).1.lt x e).2 t6.size
  have HA5 := Lib.hid (And.intro hA5 HO5.out.2.2.2.2.1)
  have HS6 := Lib.hid s6
  clear o6 l6 s6 y6 t6 rt6 e1 hA5 HO5 HS4 K5 K4
  have kc := fun (w : World) (C : Array Value) (n c : Nat) => Lib.run_convert_bytes_const (P := Try.prog) w 37 5 C n c Try.underlying37 Try.underlying5
  obtain ⟨wa, hwa⟩ : ∃ v, v6.alloc (.cells #[.int .u8 97] 5 (1, 2)) = v := ⟨_, rfl⟩
  have bA : wa.heap[v6.heap.size]? = some (.cells #[.int .u8 97] 5 (1, 2)) := by rw [← hwa]; exact heap_alloc_new v6 _
  have ka : Keep v6 wa := by rw [← hwa]; exact keep_obj (Keep.refl v6) _
  have sa : wa.heap.size = v6.heap.size + 1 := by rw [← hwa]; simp
  obtain ⟨wb, hwb⟩ : ∃ v, wa.alloc (.cells #[.slice (some ⟨v6.heap.size, 0, none⟩) 1 1] 37) = v := ⟨_, rfl⟩
  have oR := rows_lit1 wa 37 ⟨some ⟨v6.heap.size, 0, none⟩, 1, 1, [97]⟩
  have kb : Keep wa wb := by rw [← hwb]; exact (Keep.refl wa).alloc _ _
  change OwnRows (wa.alloc (.cells #[.slice (some ⟨v6.heap.size, 0, none⟩) 1 1] 37)) _ _ _ _ _ _ at oR
  rw [hwb] at oR
  have hB : RowsIn wb (fun x => x < wb.heap.size) (some ⟨wa.heap.size, 0, none⟩) 1 [⟨some ⟨v6.heap.size, 0, none⟩, 1, 1, [97]⟩] := RowsIn.of_own oR (fun r hr => by
    obtain rfl : r = ⟨some ⟨v6.heap.size, 0, none⟩, 1, 1, [97]⟩ := by simpa using hr
    exact lies_block (n := 1) (xs := [97]) ((kb.block _ (by omega)).trans bA) rfl rfl (by decide) _ (by show v6.heap.size < wb.heap.size; have := kb.size; omega)) fun x e => (oR.lt x e).2
  have hsame := rsame_any 1 1 c5 1 _ _ _ _ _ _ wb ((HA5.out.1.turned (Turned.of_keep (F := fun _ => False) (ka.trans kb)) fun _ _ e => e).mono fun x e => Nat.lt_of_lt_of_le e (ka.trans kb).size) hB (fun _ e => e) (fun _ e => e) (by decide)
  rw [HA5.out.2] at hsame
  have hdec : decide ([[97]] = rowsXs [(⟨some ⟨v6.heap.size, 0, none⟩, 1, 1, [97]⟩ : RowV)]) = true := by simp [rowsXs]
  rw [hdec, sa] at hsame
  have HSM := Lib.hid hsame
  have HD := Lib.hid (fun m => ldelivered_any ((HS6.out.keep (ka.trans kb)).drewN m))
  have K7 := Lib.hid (K6.out.trans (ka.trans kb))
  clear bA ka oR kb hB hsame hdec HA5 HS6 K6
  go_wp2_with fail
  refine HSM.out.mono ?_
  rintro e w7 ⟨rfl, m, rfl⟩
  go_wp2_with fail
  refine (HD.out m).mono ?_
  rintro e w8 ⟨rfl, rfl⟩
  go_wp2_with fail
  go_ret
  exact ⟨rfl, K7.out.drewN m⟩
end Go.Proofs.Ytgelalbmhllccaa
/- The landed sink: its calls of none. -/
namespace Go.Proofs.Ytgelalbmhllccaa
open Go.RowKit Lin
set_option linter.unusedVariables false
set_option linter.unusedSimpArgs false
theorem ltotal_none (n : Nat) (w : World) : Calls Try.prog 8 #[.pointer none, .int .u64 (n : Int)] w fun e w' => e = .returned (.int .i64 2) ∧ w' = w := by
  go_enter Try.func8, Try.ntmps8
  go_wp2_with fail
  refine (ismade_none w).mono ?_
  rintro e w1 ⟨rfl, hw1⟩
  obtain rfl : w = w1 := hw1.symm
  go_wp2_with fail
  go_ret
  exact ⟨rfl, rfl⟩
theorem ldelivered_none (w : World) : Calls Try.prog 13 #[.pointer none] w fun e w' => e = .returned (.int .u64 0) ∧ w' = w := by
  go_enter Try.func13, Try.ntmps13
  go_wp2_with fail
  refine (ismade_none w).mono ?_
  rintro e w1 ⟨rfl, hw1⟩
  obtain rfl : w = w1 := hw1.symm
  go_wp2_with fail
  go_ret
  exact ⟨rfl, rfl⟩
theorem lbroken_none (w : World) : Calls Try.prog 11 #[.pointer none] w fun e w' => e = .returned (.bool false) ∧ w' = w := by
  go_enter Try.func11, Try.ntmps11
  go_wp2_with fail
  refine (ismade_none w).mono ?_
  rintro e w1 ⟨rfl, hw1⟩
  obtain rfl : w = w1 := hw1.symm
  go_wp2_with fail
  go_ret
  exact ⟨rfl, rfl⟩
theorem lknown_none (w : World) : Calls Try.prog 12 #[.pointer none] w fun e w' => e = .returned (.tuple #[.int .u64 0, .bool false]) ∧ w' = w := by
  go_enter Try.func12, Try.ntmps12
  go_wp2_with fail
  refine (ismade_none w).mono ?_
  rintro e w1 ⟨rfl, hw1⟩
  obtain rfl : w = w1 := hw1.symm
  go_wp2_with fail
  go_ret2
  exact ⟨rfl, rfl⟩
theorem ldone_none (w : World) : Calls Try.prog 9 #[.pointer none] w fun e w' => e = .returned (.bool false) ∧ w' = w := by
  go_enter Try.func9, Try.ntmps9
  go_wp2_with fail
  refine (lknown_none w).mono ?_
  rintro e w1 ⟨rfl, hw1⟩
  obtain rfl : w = w1 := hw1.symm
  go_wp2_with fail
  go_ret
  exact ⟨rfl, rfl⟩
end Go.Proofs.Ytgelalbmhllccaa
