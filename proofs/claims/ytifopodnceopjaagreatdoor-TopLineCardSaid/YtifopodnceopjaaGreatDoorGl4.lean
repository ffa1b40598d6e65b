/- The landed frames: lay, kind by kind. -/
import Derived.Test.YtifopodnceopjaaGreatDoorQam
import Derived.Deep.DeepCutAuto
import Derived.Deep.CutBlock
namespace Go.Proofs.YtifopodnceopjaaGreatDoor
open Go.RowKit Fr
set_option linter.unusedVariables false
set_option linter.unusedSimpArgs false
theorem FrIn.below {w w' : World} {B : Nat} {m : FrM} {f : FrV} (h : FrIn w B m f) (k : Below B w w') : FrIn w' B m f :=
  ⟨h.co.below k, h.pay.below k, h.rk.below k, h.up.below k, h.hp.below k, h.oks, h.ints, h.nats, h.rks, h.eds⟩
theorem ranks_len (l : List (Nat × Int)) : (l.flatMap rankForm).length = 9 * l.length := by
  induction l with
  | nil => rfl
  | cons e l ih => rw [List.flatMap_cons, List.length_append, ih, List.length_cons, rankForm, List.length_append, formN_length, formN_length]; omega
/-- Bytes laid behind the form, and its cell set. -/
theorem lay_app {F : Nat → Prop} {g n m c c2 : Nat} {A A2 : Option Addr} {xs ys : List Nat} {w w2 : World} (hS : F g ∧ (∀ b, F b → b < w.heap.size)) (hn : xs.length = n) (hm : ys.length = m) (hc : w.heap[g]? = some (.cells #[.slice A n c] 22 (0, 0))) (ho : Own w (g + 1) 5 A n c xs) (hr : ∀ b, (Value.slice A n c).ownBlock = some b → F b)
    (h2 : Own w2 (g + 1) 5 A2 (n + m) c2 (xs ++ ys)) (hg2 : w.grownBy w2 (Value.slice A n c).ownBlock) (hrow : (Value.slice A2 (n + m) c2).ownBlock = (Value.slice A n c).ownBlock ∨ (Value.slice A2 (n + m) c2).ownBlock = some w.heap.size) :
    w2.heap[g]? = some (.cells #[.slice A n c] 22 (0, 0)) ∧ LayN F w (w2.setCell ⟨g, 0, none⟩ (.slice A2 (n + m) c2)) g (xs ++ ys) := by
  obtain ⟨hg, hF⟩ := hS
  have hgl := hF g hg
  have hne : ∀ b, (Value.slice A n c).ownBlock = some b → b ≠ g := fun b hb e => by
    have := ho.rowLe b hb
    omega
  have hc2 : w2.heap[g]? = some (.cells #[.slice A n c] 22 (0, 0)) := (hg2.block g hgl (fun e => hne g e.symm rfl)).trans hc
  have hl2 : (xs ++ ys).length = n + m := by rw [List.length_append, hn, hm]
  have T2 : Turned F w w2 := Turned.of_grown hg2 (fun i e => hr i e)
  have hrow2 : ∀ b, (Value.slice A2 (n + m) c2).ownBlock = some b → F b ∨ w.heap.size ≤ b := fun b hb => by
    rcases hrow with e | e
    · exact Or.inl (hr b (e ▸ hb))
    · rw [e] at hb
      injection hb with hb
      exact Or.inr (by omega)
  have hlt : ∀ b, (Value.slice A2 (n + m) c2).ownBlock = some b → b < w2.heap.size := fun b hb => (h2.1.lt b hb).2
  refine ⟨hc2, fun b => b = g ∨ (Value.slice A2 (n + m) c2).ownBlock = some b, ⟨Or.inl rfl, ?_, A2, c2, ?_, ?_, ?_⟩, ?_, ?_⟩
  · rintro b (rfl | hb)
    · simp [World.setCell]; have := T2.size; omega
    · have := hlt b hb
      simpa [World.setCell] using this
  · rw [hl2]; exact one_setCell hc2
  · rw [hl2]
    exact h2.far (by
      intro e
      have := h2.rowLe _ e
      exact absurd this (by show ¬ g + 1 ≤ g; omega)) _
  · rw [hl2]; exact fun b hb => Or.inr hb
  · exact T2.trans (Turned.set (F := fun b => b = g) w2 _ _ rfl) (fun i e => Or.inl (by rw [e]; exact hg))
  · rintro b (rfl | hb)
    · exact Or.inl hg
    · exact hrow2 b hb
/-- A value in a block of its own. -/
theorem block_new (w : World) (cs : Array Value) (t : TypeId) : (w.alloc (.cells cs t)).heap[w.heap.size]? = some (.cells cs t (0, 0)) := heap_alloc_new w _
/-- What a form becomes, at the end. -/
theorem lay_done {B g h : Nat} {F0 F : Nat → Prop} {W w3 wz : World} {xs : List Nat} (hB : W.heap.size = B) (k3 : Keep W w3) (hF : ∀ b, F0 b → B ≤ b) (hgB : B ≤ g + 1) (t : LayT w3 F0 g h F wz xs) :
    ∃ A n c, wz.cell? ⟨g, 0, none⟩ = some (.slice A n c) ∧ Own wz W.heap.size 5 A n c xs ∧ Keep W wz := by
  obtain ⟨⟨_, _, A, c, h3, h4, _⟩, t2, _⟩ := t
  exact ⟨A, xs.length, c, cell_of_one h3, h4.lower (by omega), t2.keep k3 (fun i hi => by have := hF i hi; omega)⟩
set_option maxRecDepth 100000 in
set_option maxHeartbeats 4000000 in
theorem glay_k1 (m : FrM) (f : FrV) (w : World) (hf : FrIn w w.heap.size m f) (hm : MayF f) (hkd : f.kind = 1) :
    Calls Tryz.prog 32 #[.agg (frCells m f)] w (NewBytes w (formF f)) := by
  have hfm : formF f = formN 1 1 ++ (formN 1 f.src.toNat ++ (formN 1 f.dst.toNat ++ (formN 8 f.ep ++ (formN 8 f.life ++ restForm f)))) := by
    unfold formF; rw [hkd]; rfl
  rw [restForm_1 hkd] at hfm
  obtain ⟨m1, m6, ms0, ms63, md0, md63, mep, mlf, mbare, mmem, moth, mdata, mfeed, mcred⟩ := hm
  obtain ⟨o1, o2, o3, o4, o5, o6, o7⟩ := moth (by omega)
  obtain ⟨_, _, p1, p2, p3, p4⟩ := mdata hkd
  obtain ⟨Fm, hFm⟩ : ∃ x, formF f = x := ⟨_, rfl⟩
  rw [hFm] at hfm ⊢
  obtain ⟨k, s, d, ep, lf, fl, gn, sq, fo, co, pay, rk, te, up, hp⟩ := f
  obtain ⟨⟨Ac, nc, cc⟩, ⟨Ap, np, cp⟩, ⟨Ar, nr, cr⟩, ⟨Au, nu, cu⟩, ⟨Ah, nh, ch⟩⟩ := m
  dsimp only at *
  subst hkd
  obtain ⟨s, rfl⟩ : ∃ x : Nat, s = x := ⟨s.toNat, by omega⟩
  obtain ⟨d, rfl⟩ : ∃ x : Nat, d = x := ⟨d.toNat, by omega⟩
  obtain ⟨fl, rfl⟩ : ∃ x : Nat, fl = x := ⟨fl.toNat, by omega⟩
  have l1 := hf.co.length
  have l2 := hf.pay.length
  dsimp only at l1 l2
  rw [l1] at p1 p2
  rw [l2] at p3 p4
  simp only [Int.toNat_natCast] at hfm
  have HFM := Lib.hid hfm
  have hU := hf.nats
  dsimp only [U64] at hU
  obtain ⟨n1, n2, n3, n4, n5, n6⟩ := hU
  obtain ⟨B, hB⟩ : ∃ B, w.heap.size = B := ⟨_, rfl⟩
  rw [hB] at hf
  obtain ⟨fr, hfr⟩ : ∃ fr : FrV, (⟨1, (s : Int), (d : Int), ep, lf, fl, gn, sq, fo, co, pay, rk, te, up, hp⟩ : FrV) = fr := ⟨_, rfl⟩
  obtain ⟨mr, hmr⟩ : ∃ mr : FrM, (⟨⟨Ac, nc, cc⟩, ⟨Ap, np, cp⟩, ⟨Ar, nr, cr⟩, ⟨Au, nu, cu⟩, ⟨Ah, nh, ch⟩⟩ : FrM) = mr := ⟨_, rfl⟩
  obtain ⟨w3, hw3⟩ : ∃ w3, ((w.alloc (.cells (frCells mr fr) 52)).alloc (.cells #[.slice none 0 0] 22)).alloc (.cells #[.func (.func 76) #[] #[.pointer (some ⟨B + 1, 0, none⟩)]] 139) = w3 := ⟨_, rfl⟩
  have k3 : Keep w w3 := by rw [← hw3]; exact (((Keep.refl w).alloc _ _).alloc _ _).alloc _ _
  have b0 : FrBox w3 B 52 mr fr := by
    have h1 := block_new w (frCells mr fr) 52
    rw [hB] at h1
    rw [← hw3]
    exact ((((Keep.refl (w.alloc (.cells (frCells mr fr) 52))).alloc _ _).alloc _ _).block B (by simp; omega)).trans h1
  have b1 : w3.heap[B + 1]? = some (.cells #[.slice none 0 0] 22 (0, 0)) := by
    have h1 := block_new (w.alloc (.cells (frCells mr fr) 52)) #[.slice none 0 0] 22
    rw [show (w.alloc (.cells (frCells mr fr) 52)).heap.size = B + 1 by simp; omega] at h1
    rw [← hw3]
    exact (((Keep.refl _).alloc _ _).block (B + 1) (by simp; omega)).trans h1
  have b2 : ClosC w3 (B + 2) (B + 1) := by
    have h1 := block_new ((w.alloc (.cells (frCells mr fr) 52)).alloc (.cells #[.slice none 0 0] 22)) #[.func (.func 76) #[] #[.pointer (some ⟨B + 1, 0, none⟩)]] 139
    rw [hw3, show ((w.alloc (.cells (frCells mr fr) 52)).alloc (.cells #[.slice none 0 0] 22)).heap.size = B + 2 by simp; omega] at h1
    exact cell_of_one h1
  have s3 : w3.heap.size = B + 3 := by rw [← hw3]; simp; omega
  have t3 : LayT w3 (fun b => b = B + 1) (B + 1) (B + 2) (fun b => b = B + 1) w3 [] :=
    LayT.start ⟨rfl, fun b hb => by omega, none, 0, b1, Own.none_ _ _ _, fun b hb => by simp [Value.ownBlock] at hb⟩
  have hf3 : FrIn w3 B mr fr := by rw [← hmr, ← hfr]; exact hf.keep (by omega) k3
  have HALL : Hid (∀ F wr ys, LayT w3 (fun b => b = B + 1) (B + 1) (B + 2) F wr ys → FrBox wr B 52 mr fr ∧ ClosC wr (B + 2) (B + 1) ∧ ¬ F (B + 2) ∧ FrIn wr B mr fr ∧ (∀ b, F b → B ≤ b) ∧ B ≤ wr.heap.size) := fun F wr ys t =>
    ⟨(t.tn.block B (by omega) (by omega)).trans b0, t.clos b2 (by omega), t.not (by omega) (by omega), hf3.below (t.tn.below (B := B) (fun i hi => by omega) (by omega)), fun b hb => by
      rcases t.new b hb with e | e <;> omega, by have := t.tn.size; omega⟩
  subst hmr
  subst hfr
  simp only [frCells] at hw3
  have T0 := Lib.hid t3
  have K3 := Lib.hid k3
  have HB := Lib.hid hB
  have HW3 := Lib.hid hw3
  obtain ⟨fb, cl, nh_, fi, fB, sB⟩ := HALL.out _ w3 _ t3
  clear b0 b1 b2 t3 hf3 hf hfm k3 mbare mmem moth mdata mfeed mcred s3 m1 m6 hFm
  simp only [frCells]
  have c0 : w3.cell? ⟨B, 0, none⟩ = some (.int .i64 1) := fb.cell 0 _ rfl
  have c1 : w3.cell? ⟨B, 1, none⟩ = some (.int .i64 (s : Int)) := fb.cell 1 _ rfl
  have c2 : w3.cell? ⟨B, 2, none⟩ = some (.int .i64 (d : Int)) := fb.cell 2 _ rfl
  have HN0 : Hid (Calls Tryz.prog 78 #[.slice (some ⟨w3.heap.size, 0, none⟩) 3 3, .pointer (some ⟨B + 2, 0, none⟩)] (w3.alloc (.cells #[.int .i64 1, .int .i64 (s : Int), .int .i64 (d : Int)] 3)) fun e w' => e = .returned (.tuple #[]) ∧ LayN (fun b => b = B + 1) w3 w' (B + 1) ([] ++ (formN 1 1 ++ (formN 1 s ++ formN 1 d)))) :=
    glay_three (fun b => b = B + 1) (B + 1) (B + 2) 1 s d ([]) w3 T0.out.st cl nh_ (by omega) (by omega) (by omega) (by simp [formN_length]; try omega)
  clear fb cl nh_ fi fB sB
  go_enter Tryz.func32, Tryz.ntmps32
  clear hw3
  go_upto_region 5 with fail
  rw [HW3.out]
  go_wp2_with fail
  refine HN0.out.mono ?_
  rintro e w0' ⟨rfl, n0⟩
  obtain ⟨F1, t1⟩ := T0.out.next n0
  have T1 := Lib.hid t1
  obtain ⟨fb, cl, nh_, fi, fB, sB⟩ := HALL.out F1 w0' _ t1
  clear n0 t1 c0 c1 c2
  have c3 : w0'.cell? ⟨B, 3, none⟩ = some (.int .u64 (ep : Int)) := fb.cell 3 _ rfl
  have c4 : w0'.cell? ⟨B, 4, none⟩ = some (.int .u64 (lf : Int)) := fb.cell 4 _ rfl
  have HN1 : Hid (Calls Tryz.prog 79 #[.slice (some ⟨w0'.heap.size, 0, none⟩) 2 2, .pointer (some ⟨B + 2, 0, none⟩)] (w0'.alloc (.cells #[.int .u64 (ep : Int), .int .u64 (lf : Int)] 36)) fun e w' => e = .returned (.tuple #[]) ∧ LayN F1 w0' w' (B + 1) ([] ++ (formN 1 1 ++ (formN 1 s ++ formN 1 d)) ++ (formN 8 ep ++ formN 8 lf))) :=
    glay_eight2 F1 (B + 1) (B + 2) ep lf ([] ++ (formN 1 1 ++ (formN 1 s ++ formN 1 d))) w0' T1.out.st cl nh_ (by omega) (by omega) (by simp [formN_length]; try omega)
  clear fb cl nh_ fi fB sB
  go_wp2_with fail
  refine HN1.out.mono ?_
  rintro e w1' ⟨rfl, n1⟩
  obtain ⟨F2, t2⟩ := T1.out.next n1
  have T2 := Lib.hid t2
  obtain ⟨fb, cl, nh_, fi, fB, sB⟩ := HALL.out F2 w1' _ t2
  clear n1 t2 c3 c4
  have c5 : w1'.cell? ⟨B, 5, none⟩ = some (.int .i64 (fl : Int)) := fb.cell 5 _ rfl
  have c0 : w1'.cell? ⟨B, 0, none⟩ = some (.int .i64 1) := fb.cell 0 _ rfl
  have HN2 : Hid (Calls Tryz.prog 78 #[.slice (some ⟨w1'.heap.size, 0, none⟩) 1 1, .pointer (some ⟨B + 2, 0, none⟩)] (w1'.alloc (.cells #[.int .i64 (fl : Int)] 3)) fun e w' => e = .returned (.tuple #[]) ∧ LayN F2 w1' w' (B + 1) ([] ++ (formN 1 1 ++ (formN 1 s ++ formN 1 d)) ++ (formN 8 ep ++ formN 8 lf) ++ formN 1 fl)) :=
    glay_one F2 (B + 1) (B + 2) fl ([] ++ (formN 1 1 ++ (formN 1 s ++ formN 1 d)) ++ (formN 8 ep ++ formN 8 lf)) w1' T2.out.st cl nh_ (by omega) (by simp [formN_length]; try omega)
  clear fb cl nh_ fi fB sB
  go_wp2_with fail
  refine HN2.out.mono ?_
  rintro e w2' ⟨rfl, n2⟩
  obtain ⟨F3, t3⟩ := T2.out.next n2
  have T3 := Lib.hid t3
  obtain ⟨fb, cl, nh_, fi, fB, sB⟩ := HALL.out F3 w2' _ t3
  clear n2 t3 c5
  have c6 : w2'.cell? ⟨B, 6, none⟩ = some (.int .u64 (gn : Int)) := fb.cell 6 _ rfl
  have c7 : w2'.cell? ⟨B, 7, none⟩ = some (.int .u64 (sq : Int)) := fb.cell 7 _ rfl
  have HN3 : Hid (Calls Tryz.prog 79 #[.slice (some ⟨w2'.heap.size, 0, none⟩) 2 2, .pointer (some ⟨B + 2, 0, none⟩)] (w2'.alloc (.cells #[.int .u64 (gn : Int), .int .u64 (sq : Int)] 36)) fun e w' => e = .returned (.tuple #[]) ∧ LayN F3 w2' w' (B + 1) ([] ++ (formN 1 1 ++ (formN 1 s ++ formN 1 d)) ++ (formN 8 ep ++ formN 8 lf) ++ formN 1 fl ++ (formN 8 gn ++ formN 8 sq))) :=
    glay_eight2 F3 (B + 1) (B + 2) gn sq ([] ++ (formN 1 1 ++ (formN 1 s ++ formN 1 d)) ++ (formN 8 ep ++ formN 8 lf) ++ formN 1 fl) w2' T3.out.st cl nh_ (by omega) (by omega) (by simp [formN_length]; try omega)
  clear fb cl nh_ fi fB sB
  go_wp2_with fail
  refine HN3.out.mono ?_
  rintro e w3' ⟨rfl, n3⟩
  obtain ⟨F4, t4⟩ := T3.out.next n3
  have T4 := Lib.hid t4
  obtain ⟨fb, cl, nh_, fi, fB, sB⟩ := HALL.out F4 w3' _ t4
  clear n3 t4 c6 c7
  have c9 : w3'.cell? ⟨B, 9, none⟩ = some (.slice Ac nc cc) := fb.cell 9 _ rfl
  have HN4 : Hid (Calls Tryz.prog 78 #[.slice (some ⟨w3'.heap.size, 0, none⟩) 1 1, .pointer (some ⟨B + 2, 0, none⟩)] (w3'.alloc (.cells #[.int .i64 (nc : Int)] 3)) fun e w' => e = .returned (.tuple #[]) ∧ LayN F4 w3' w' (B + 1) ([] ++ (formN 1 1 ++ (formN 1 s ++ formN 1 d)) ++ (formN 8 ep ++ formN 8 lf) ++ formN 1 fl ++ (formN 8 gn ++ formN 8 sq) ++ formN 1 nc)) :=
    glay_one F4 (B + 1) (B + 2) nc ([] ++ (formN 1 1 ++ (formN 1 s ++ formN 1 d)) ++ (formN 8 ep ++ formN 8 lf) ++ formN 1 fl ++ (formN 8 gn ++ formN 8 sq)) w3' T4.out.st cl nh_ (by omega) (by simp [formN_length]; try omega)
  clear fb cl nh_ fi fB sB
  go_wp2_with fail
  refine HN4.out.mono ?_
  rintro e w4' ⟨rfl, n4⟩
  obtain ⟨F5, t5⟩ := T4.out.next n4
  have T5 := Lib.hid t5
  obtain ⟨fb, cl, nh_, fi, fB, sB⟩ := HALL.out F5 w4' _ t5
  clear n4 t5 c9
  have c9 : w4'.cell? ⟨B, 9, none⟩ = some (.slice Ac nc cc) := fb.cell 9 _ rfl
  obtain ⟨y5, hy5⟩ : ∃ y, [] ++ (formN 1 1 ++ (formN 1 s ++ formN 1 d)) ++ (formN 8 ep ++ formN 8 lf) ++ formN 1 fl ++ (formN 8 gn ++ formN 8 sq) ++ formN 1 nc = y := ⟨_, rfl⟩
  have hyl5 : y5.length ≤ 1000 := by rw [← hy5]; simp only [List.length_append, List.length_nil, formN_length]; omega
  rw [hy5] at T5
  have HYS5 := Lib.hid hy5
  clear hy5
  obtain ⟨⟨hFg, hFl, Af, cf, hcf, hof, hrf⟩, _⟩ := T5.out
  obtain ⟨nf, hnf⟩ : ∃ nf, (y5).length = nf := ⟨_, rfl⟩
  rw [hnf] at hcf hof hrf
  have hnfl : nf ≤ 300000 := by omega
  have ca := cell_of_one hcf
  have OF := Lib.hid hof
  have CF := Lib.hid hcf
  have RF := Lib.hid hrf
  have FG := Lib.hid (And.intro hFg hFl)
  have NF := Lib.hid hnf
  have BY := Lib.hid fi.co
  have HGB : Hid (B + 1 + 1 ≤ w4'.heap.size) := by show B + 1 + 1 ≤ _; have := hFl _ hFg; omega
  clear hFg hFl hcf hof hrf hnf
  clear fb cl nh_ fi fB sB
  go_wp2_with (at_builtin; refine wpList_append_bytes rfl _ _ 22 rfl Tryz.underlying22 info5 rfl OF.out rfl BY.out (by omega) HGB.out ?_)
  intro A2 c2 wx h2 hg2 hrow
  obtain ⟨hcx, n5⟩ := lay_app FG.out NF.out BY.out.length CF.out OF.out RF.out h2 hg2 hrow
  have cx := cell_of_one hcx
  have fx := free_of_one hcx
  obtain ⟨w5', hw5'⟩ : ∃ y, wx.setCell ⟨B + 1, 0, none⟩ (.slice A2 (nf + nc) c2) = y := ⟨_, rfl⟩
  rw [hw5'] at n5
  obtain ⟨F6, t6⟩ := T5.out.next n5
  have T6 := Lib.hid t6
  obtain ⟨fb, cl, nh_, fi, fB, sB⟩ := HALL.out F6 w5' _ t6
  clear n5 t6 c9
  clear h2 hg2 hrow
  have c10 : w5'.cell? ⟨B, 10, none⟩ = some (.slice Ap np cp) := fb.cell 10 _ rfl
  have lfn : w5'.cell? ⟨B + 1 + 1, 0, none⟩ = some (.func (.func 76) #[] #[.pointer (some ⟨B + 1, 0, none⟩)]) := cl
  have hwr : IntKind.u64.wrap (np : Int) = (np : Int) := IntWalk.u64_in _ (by omega)
  have HN6 : Hid (Calls Tryz.prog 76 #[.int .u64 (np : Int), .int .i64 2, .pointer (some ⟨B + 1, 0, none⟩)] w5' fun e w' => e = .returned (.tuple #[]) ∧ LayN F6 w5' w' (B + 1) (y5 ++ co ++ formN 2 np)) :=
    gnum_any F6 (B + 1) np 2 (y5 ++ co) w5' T6.out.st (by omega) (by omega) (by omega) (by simp only [List.length_append, List.length_nil, formN_length]; omega)
  clear fb cl nh_ fi fB sB
  go_wp2_with fail
  refine HN6.out.mono ?_
  rintro e w6' ⟨rfl, n6⟩
  obtain ⟨F7, t7⟩ := T6.out.next n6
  have T7 := Lib.hid t7
  obtain ⟨fb, cl, nh_, fi, fB, sB⟩ := HALL.out F7 w6' _ t7
  clear n6 t7 c10
  have c10 : w6'.cell? ⟨B, 10, none⟩ = some (.slice Ap np cp) := fb.cell 10 _ rfl
  obtain ⟨y7, hy7⟩ : ∃ y, y5 ++ co ++ formN 2 np = y := ⟨_, rfl⟩
  have hyl7 : y7.length ≤ 2000 := by rw [← hy7]; simp only [List.length_append, List.length_nil, formN_length]; omega
  rw [hy7] at T7
  have HYS7 := Lib.hid hy7
  clear hy7
  obtain ⟨⟨hFg, hFl, Af, cf, hcf, hof, hrf⟩, _⟩ := T7.out
  obtain ⟨nf, hnf⟩ : ∃ nf, (y7).length = nf := ⟨_, rfl⟩
  rw [hnf] at hcf hof hrf
  have hnfl : nf ≤ 300000 := by omega
  have ca := cell_of_one hcf
  have OF := Lib.hid hof
  have CF := Lib.hid hcf
  have RF := Lib.hid hrf
  have FG := Lib.hid (And.intro hFg hFl)
  have NF := Lib.hid hnf
  have BY := Lib.hid fi.pay
  have HGB : Hid (B + 1 + 1 ≤ w6'.heap.size) := by show B + 1 + 1 ≤ _; have := hFl _ hFg; omega
  clear hFg hFl hcf hof hrf hnf
  clear fb cl nh_ fi fB sB
  go_wp2_with (at_builtin; refine wpList_append_bytes rfl _ _ 22 rfl Tryz.underlying22 info5 rfl OF.out rfl BY.out (by omega) HGB.out ?_)
  intro A2 c2 wx h2 hg2 hrow
  obtain ⟨hcx, n7⟩ := lay_app FG.out NF.out BY.out.length CF.out OF.out RF.out h2 hg2 hrow
  have cx := cell_of_one hcx
  have fx := free_of_one hcx
  obtain ⟨w7', hw7'⟩ : ∃ y, wx.setCell ⟨B + 1, 0, none⟩ (.slice A2 (nf + np) c2) = y := ⟨_, rfl⟩
  rw [hw7'] at n7
  obtain ⟨F8, t8⟩ := T7.out.next n7
  have T8 := Lib.hid t8
  obtain ⟨fb, cl, nh_, fi, fB, sB⟩ := HALL.out F8 w7' _ t8
  clear n7 t8 c10
  clear h2 hg2 hrow
  have HX : Hid (y7 ++ pay = Fm) := by
    show _ = _
    rw [← HYS7.out]
    rw [← HYS5.out]
    rw [HFM.out]
    simp only [List.nil_append, List.append_assoc, dataForm, Int.toNat_natCast, l1, l2]
  rw [HX.out] at T8
  obtain ⟨A, nA, cA, ca, oa, ka⟩ := lay_done HB.out K3.out (fun b hb => by omega) (by omega) T8.out
  have OA := Lib.hid oa
  have KA := Lib.hid ka
  clear fb cl nh_ fi fB sB oa ka
  go_wp2_with fail
  go_ret
  exact ⟨A, nA, cA, rfl, OA.out, KA.out⟩
set_option maxRecDepth 100000 in
set_option maxHeartbeats 4000000 in
theorem glay_k2 (m : FrM) (f : FrV) (w : World) (hf : FrIn w w.heap.size m f) (hm : MayF f) (hkd : f.kind = 2) :
    Calls Tryz.prog 32 #[.agg (frCells m f)] w (NewBytes w (formF f)) := by
  have hfm : formF f = formN 1 2 ++ (formN 1 f.src.toNat ++ (formN 1 f.dst.toNat ++ (formN 8 f.ep ++ (formN 8 f.life ++ restForm f)))) := by
    unfold formF; rw [hkd]; rfl
  rw [restForm_2 hkd] at hfm
  obtain ⟨m1, m6, ms0, ms63, md0, md63, mep, mlf, mbare, mmem, moth, mdata, mfeed, mcred⟩ := hm
  obtain ⟨o1, o2, o3, o4, o5, o6, o7⟩ := moth (by omega)
  obtain ⟨rok, p1⟩ := mfeed hkd
  have rfew := rank_few _ _ rok
  have RKB := Lib.hid (rank_bounds _ _ _ rok)
  clear rok
  obtain ⟨Fm, hFm⟩ : ∃ x, formF f = x := ⟨_, rfl⟩
  rw [hFm] at hfm ⊢
  obtain ⟨k, s, d, ep, lf, fl, gn, sq, fo, co, pay, rk, te, up, hp⟩ := f
  obtain ⟨⟨Ac, nc, cc⟩, ⟨Ap, np, cp⟩, ⟨Ar, nr, cr⟩, ⟨Au, nu, cu⟩, ⟨Ah, nh, ch⟩⟩ := m
  dsimp only at *
  subst hkd
  obtain ⟨s, rfl⟩ : ∃ x : Nat, s = x := ⟨s.toNat, by omega⟩
  obtain ⟨d, rfl⟩ : ∃ x : Nat, d = x := ⟨d.toNat, by omega⟩
  obtain ⟨fl, rfl⟩ : ∃ x : Nat, fl = x := ⟨fl.toNat, by omega⟩
  have l1 := hf.rk.length
  dsimp only at l1
  rw [l1] at rfew
  simp only [Int.toNat_natCast] at hfm
  have HFM := Lib.hid hfm
  have hU := hf.nats
  dsimp only [U64] at hU
  obtain ⟨n1, n2, n3, n4, n5, n6⟩ := hU
  obtain ⟨B, hB⟩ : ∃ B, w.heap.size = B := ⟨_, rfl⟩
  rw [hB] at hf
  obtain ⟨fr, hfr⟩ : ∃ fr : FrV, (⟨2, (s : Int), (d : Int), ep, lf, fl, gn, sq, fo, co, pay, rk, te, up, hp⟩ : FrV) = fr := ⟨_, rfl⟩
  obtain ⟨mr, hmr⟩ : ∃ mr : FrM, (⟨⟨Ac, nc, cc⟩, ⟨Ap, np, cp⟩, ⟨Ar, nr, cr⟩, ⟨Au, nu, cu⟩, ⟨Ah, nh, ch⟩⟩ : FrM) = mr := ⟨_, rfl⟩
  obtain ⟨w3, hw3⟩ : ∃ w3, ((w.alloc (.cells (frCells mr fr) 52)).alloc (.cells #[.slice none 0 0] 22)).alloc (.cells #[.func (.func 76) #[] #[.pointer (some ⟨B + 1, 0, none⟩)]] 139) = w3 := ⟨_, rfl⟩
  have k3 : Keep w w3 := by rw [← hw3]; exact (((Keep.refl w).alloc _ _).alloc _ _).alloc _ _
  have b0 : FrBox w3 B 52 mr fr := by
    have h1 := block_new w (frCells mr fr) 52
    rw [hB] at h1
    rw [← hw3]
    exact ((((Keep.refl (w.alloc (.cells (frCells mr fr) 52))).alloc _ _).alloc _ _).block B (by simp; omega)).trans h1
  have b1 : w3.heap[B + 1]? = some (.cells #[.slice none 0 0] 22 (0, 0)) := by
    have h1 := block_new (w.alloc (.cells (frCells mr fr) 52)) #[.slice none 0 0] 22
    rw [show (w.alloc (.cells (frCells mr fr) 52)).heap.size = B + 1 by simp; omega] at h1
    rw [← hw3]
    exact (((Keep.refl _).alloc _ _).block (B + 1) (by simp; omega)).trans h1
  have b2 : ClosC w3 (B + 2) (B + 1) := by
    have h1 := block_new ((w.alloc (.cells (frCells mr fr) 52)).alloc (.cells #[.slice none 0 0] 22)) #[.func (.func 76) #[] #[.pointer (some ⟨B + 1, 0, none⟩)]] 139
    rw [hw3, show ((w.alloc (.cells (frCells mr fr) 52)).alloc (.cells #[.slice none 0 0] 22)).heap.size = B + 2 by simp; omega] at h1
    exact cell_of_one h1
  have s3 : w3.heap.size = B + 3 := by rw [← hw3]; simp; omega
  have t3 : LayT w3 (fun b => b = B + 1) (B + 1) (B + 2) (fun b => b = B + 1) w3 [] :=
    LayT.start ⟨rfl, fun b hb => by omega, none, 0, b1, Own.none_ _ _ _, fun b hb => by simp [Value.ownBlock] at hb⟩
  have hf3 : FrIn w3 B mr fr := by rw [← hmr, ← hfr]; exact hf.keep (by omega) k3
  have HALL : Hid (∀ F wr ys, LayT w3 (fun b => b = B + 1) (B + 1) (B + 2) F wr ys → FrBox wr B 52 mr fr ∧ ClosC wr (B + 2) (B + 1) ∧ ¬ F (B + 2) ∧ FrIn wr B mr fr ∧ (∀ b, F b → B ≤ b) ∧ B ≤ wr.heap.size) := fun F wr ys t =>
    ⟨(t.tn.block B (by omega) (by omega)).trans b0, t.clos b2 (by omega), t.not (by omega) (by omega), hf3.below (t.tn.below (B := B) (fun i hi => by omega) (by omega)), fun b hb => by
      rcases t.new b hb with e | e <;> omega, by have := t.tn.size; omega⟩
  subst hmr
  subst hfr
  simp only [frCells] at hw3
  have T0 := Lib.hid t3
  have K3 := Lib.hid k3
  have HB := Lib.hid hB
  have HW3 := Lib.hid hw3
  obtain ⟨fb, cl, nh_, fi, fB, sB⟩ := HALL.out _ w3 _ t3
  clear b0 b1 b2 t3 hf3 hf hfm k3 mbare mmem moth mdata mfeed mcred s3 m1 m6 hFm
  simp only [frCells]
  have c0 : w3.cell? ⟨B, 0, none⟩ = some (.int .i64 2) := fb.cell 0 _ rfl
  have c1 : w3.cell? ⟨B, 1, none⟩ = some (.int .i64 (s : Int)) := fb.cell 1 _ rfl
  have c2 : w3.cell? ⟨B, 2, none⟩ = some (.int .i64 (d : Int)) := fb.cell 2 _ rfl
  have HN0 : Hid (Calls Tryz.prog 78 #[.slice (some ⟨w3.heap.size, 0, none⟩) 3 3, .pointer (some ⟨B + 2, 0, none⟩)] (w3.alloc (.cells #[.int .i64 2, .int .i64 (s : Int), .int .i64 (d : Int)] 3)) fun e w' => e = .returned (.tuple #[]) ∧ LayN (fun b => b = B + 1) w3 w' (B + 1) ([] ++ (formN 1 2 ++ (formN 1 s ++ formN 1 d)))) :=
    glay_three (fun b => b = B + 1) (B + 1) (B + 2) 2 s d ([]) w3 T0.out.st cl nh_ (by omega) (by omega) (by omega) (by simp [formN_length]; try omega)
  clear fb cl nh_ fi fB sB
  go_enter Tryz.func32, Tryz.ntmps32
  clear hw3
  go_upto_region 5 with fail
  rw [HW3.out]
  go_wp2_with fail
  refine HN0.out.mono ?_
  rintro e w0' ⟨rfl, n0⟩
  obtain ⟨F1, t1⟩ := T0.out.next n0
  have T1 := Lib.hid t1
  obtain ⟨fb, cl, nh_, fi, fB, sB⟩ := HALL.out F1 w0' _ t1
  clear n0 t1 c0 c1 c2
  have c3 : w0'.cell? ⟨B, 3, none⟩ = some (.int .u64 (ep : Int)) := fb.cell 3 _ rfl
  have c4 : w0'.cell? ⟨B, 4, none⟩ = some (.int .u64 (lf : Int)) := fb.cell 4 _ rfl
  have HN1 : Hid (Calls Tryz.prog 79 #[.slice (some ⟨w0'.heap.size, 0, none⟩) 2 2, .pointer (some ⟨B + 2, 0, none⟩)] (w0'.alloc (.cells #[.int .u64 (ep : Int), .int .u64 (lf : Int)] 36)) fun e w' => e = .returned (.tuple #[]) ∧ LayN F1 w0' w' (B + 1) ([] ++ (formN 1 2 ++ (formN 1 s ++ formN 1 d)) ++ (formN 8 ep ++ formN 8 lf))) :=
    glay_eight2 F1 (B + 1) (B + 2) ep lf ([] ++ (formN 1 2 ++ (formN 1 s ++ formN 1 d))) w0' T1.out.st cl nh_ (by omega) (by omega) (by simp [formN_length]; try omega)
  clear fb cl nh_ fi fB sB
  go_wp2_with fail
  refine HN1.out.mono ?_
  rintro e w1' ⟨rfl, n1⟩
  obtain ⟨F2, t2⟩ := T1.out.next n1
  have T2 := Lib.hid t2
  obtain ⟨fb, cl, nh_, fi, fB, sB⟩ := HALL.out F2 w1' _ t2
  clear n1 t2 c3 c4
  have c5 : w1'.cell? ⟨B, 5, none⟩ = some (.int .i64 (fl : Int)) := fb.cell 5 _ rfl
  have c0 : w1'.cell? ⟨B, 0, none⟩ = some (.int .i64 2) := fb.cell 0 _ rfl
  have HN2 : Hid (Calls Tryz.prog 78 #[.slice (some ⟨w1'.heap.size, 0, none⟩) 1 1, .pointer (some ⟨B + 2, 0, none⟩)] (w1'.alloc (.cells #[.int .i64 (fl : Int)] 3)) fun e w' => e = .returned (.tuple #[]) ∧ LayN F2 w1' w' (B + 1) ([] ++ (formN 1 2 ++ (formN 1 s ++ formN 1 d)) ++ (formN 8 ep ++ formN 8 lf) ++ formN 1 fl)) :=
    glay_one F2 (B + 1) (B + 2) fl ([] ++ (formN 1 2 ++ (formN 1 s ++ formN 1 d)) ++ (formN 8 ep ++ formN 8 lf)) w1' T2.out.st cl nh_ (by omega) (by simp [formN_length]; try omega)
  clear fb cl nh_ fi fB sB
  go_wp2_with fail
  refine HN2.out.mono ?_
  rintro e w2' ⟨rfl, n2⟩
  obtain ⟨F3, t3⟩ := T2.out.next n2
  have T3 := Lib.hid t3
  obtain ⟨fb, cl, nh_, fi, fB, sB⟩ := HALL.out F3 w2' _ t3
  clear n2 t3 c5
  have c6 : w2'.cell? ⟨B, 6, none⟩ = some (.int .u64 (gn : Int)) := fb.cell 6 _ rfl
  have c7 : w2'.cell? ⟨B, 7, none⟩ = some (.int .u64 (sq : Int)) := fb.cell 7 _ rfl
  have HN3 : Hid (Calls Tryz.prog 79 #[.slice (some ⟨w2'.heap.size, 0, none⟩) 2 2, .pointer (some ⟨B + 2, 0, none⟩)] (w2'.alloc (.cells #[.int .u64 (gn : Int), .int .u64 (sq : Int)] 36)) fun e w' => e = .returned (.tuple #[]) ∧ LayN F3 w2' w' (B + 1) ([] ++ (formN 1 2 ++ (formN 1 s ++ formN 1 d)) ++ (formN 8 ep ++ formN 8 lf) ++ formN 1 fl ++ (formN 8 gn ++ formN 8 sq))) :=
    glay_eight2 F3 (B + 1) (B + 2) gn sq ([] ++ (formN 1 2 ++ (formN 1 s ++ formN 1 d)) ++ (formN 8 ep ++ formN 8 lf) ++ formN 1 fl) w2' T3.out.st cl nh_ (by omega) (by omega) (by simp [formN_length]; try omega)
  clear fb cl nh_ fi fB sB
  go_wp2_with fail
  refine HN3.out.mono ?_
  rintro e w3' ⟨rfl, n3⟩
  obtain ⟨F4, t4⟩ := T3.out.next n3
  have T4 := Lib.hid t4
  obtain ⟨fb, cl, nh_, fi, fB, sB⟩ := HALL.out F4 w3' _ t4
  clear n3 t4 c6 c7
  have c11 : w3'.cell? ⟨B, 11, none⟩ = some (.slice Ar nr cr) := fb.cell 11 _ rfl
  have HN4 : Hid (Calls Tryz.prog 78 #[.slice (some ⟨w3'.heap.size, 0, none⟩) 1 1, .pointer (some ⟨B + 2, 0, none⟩)] (w3'.alloc (.cells #[.int .i64 (nr : Int)] 3)) fun e w' => e = .returned (.tuple #[]) ∧ LayN F4 w3' w' (B + 1) ([] ++ (formN 1 2 ++ (formN 1 s ++ formN 1 d)) ++ (formN 8 ep ++ formN 8 lf) ++ formN 1 fl ++ (formN 8 gn ++ formN 8 sq) ++ formN 1 nr)) :=
    glay_one F4 (B + 1) (B + 2) nr ([] ++ (formN 1 2 ++ (formN 1 s ++ formN 1 d)) ++ (formN 8 ep ++ formN 8 lf) ++ formN 1 fl ++ (formN 8 gn ++ formN 8 sq)) w3' T4.out.st cl nh_ (by omega) (by simp [formN_length]; try omega)
  clear fb cl nh_ fi fB sB
  go_wp2_with fail
  refine HN4.out.mono ?_
  rintro e w4' ⟨rfl, n4⟩
  obtain ⟨F5, t5⟩ := T4.out.next n4
  have T5 := Lib.hid t5
  obtain ⟨fb, cl, nh_, fi, fB, sB⟩ := HALL.out F5 w4' _ t5
  clear n4 t5 c11
  obtain ⟨ys, hys⟩ : ∃ ys, [] ++ (formN 1 2 ++ (formN 1 s ++ formN 1 d)) ++ (formN 8 ep ++ formN 8 lf) ++ formN 1 fl ++ (formN 8 gn ++ formN 8 sq) ++ formN 1 nr = ys := ⟨_, rfl⟩
  have hyl : ys.length ≤ 100 := by rw [← hys]; simp [formN_length]
  rw [hys] at T5
  have HYS := Lib.hid hys
  have c11 : w4'.cell? ⟨B, 11, none⟩ = some (.slice Ar nr cr) := fb.cell 11 _ rfl
  clear hys fb cl nh_ fi fB sB
  go_wp2_with fail
  clear c11
  go_loopw [91] (fun iv wr => ∃ (i : Nat) (F : Nat → Prop), i ≤ nr ∧ iv = .int .i64 i ∧ LayT w3 (fun b => b = B + 1) (B + 1) (B + 2) F wr (ys ++ (rk.take i).flatMap rankForm)) (fun iv _ => nr - (intOf iv).toNat)
  case atStart => exact ⟨0, _, by omega, rfl, by simpa using T5.out⟩
  case round =>
    obtain ⟨i, F, hi, rfl, t⟩ := hrel
    obtain ⟨fb, cl, nh_, fi, fB, sB⟩ := HALL.out F wr _ t
    have T := Lib.hid t
    by_cases hlt : i < nr
    · obtain ⟨⟨rg, rr⟩, hr⟩ := get_some l1 hlt
      obtain ⟨p, o, rfl, _, s1, s2⟩ := fi.rk.at_ hr
      dsimp only at s1 s2
      have s2 : wr.cell? ⟨p, o + i * 2 + 1, none⟩ = some (.int .i64 rr) := s2
      obtain ⟨d1, d2, d3⟩ := RKB.out (rg, rr) (List.mem_of_getElem? hr)
      dsimp only at d1 d2 d3
      have d1 : rg < 18446744073709551616 := d1
      obtain ⟨a, rfl⟩ : ∃ a : Nat, rr = a := ⟨rr.toNat, by omega⟩
      have hlen2 : (ys ++ (rk.take i).flatMap rankForm).length ≤ 1000 := by
        rw [List.length_append, ranks_len, List.length_take]; omega
      obtain ⟨w7, hw7⟩ : ∃ w7, wr.alloc (.cells #[.int .u64 (rg : Int), .int .i64 (a : Int)] 93) = w7 := ⟨_, rfl⟩
      obtain ⟨k7, m0, m1⟩ := two_box wr _ _ _ hw7
      obtain ⟨g7, hg7⟩ : ∃ g7, wr.heap.size = g7 := ⟨_, rfl⟩
      rw [hg7] at m0 m1
      have ng7 : ¬ F g7 := fun e => by have := t.st.2.1 g7 e; omega
      have HX2 : Hid ((rk.take (i + 1)).flatMap rankForm = (rk.take i).flatMap rankForm ++ (formN 8 rg ++ formN 1 a)) := flat_take rankForm rk i _ hr
      have e3 : (0 : Int) ≤ (i : Int) := Int.natCast_nonneg _
      have e4 : (i : Int) < (nr : Int) := by omega
      have T7 := t.keep k7
      have cl7 : ClosC w7 (B + 2) (B + 1) := (World.cell?_of_block (k7.block (B + 2) (World.block_lt_of_cell? wr _ cl))).trans cl
      have HN7 : Hid (Calls Tryz.prog 79 #[.slice (some ⟨w7.heap.size, 0, none⟩) 1 1, .pointer (some ⟨B + 2, 0, none⟩)] (w7.alloc (.cells #[.int .u64 (rg : Int)] 36)) fun e w' => e = .returned (.tuple #[]) ∧ LayN F w7 w' (B + 1) (ys ++ (rk.take i).flatMap rankForm ++ formN 8 rg)) :=
        glay_eight F (B + 1) (B + 2) rg _ w7 T7.st cl7 nh_ d1 (by omega)
      have HN8 : Hid (∀ w8, LayN F w7 w8 (B + 1) (ys ++ (rk.take i).flatMap rankForm ++ formN 8 rg) → w8.cell? ⟨g7, 1, none⟩ = some (.int .i64 (a : Int)) ∧ (Calls Tryz.prog 78 #[.slice (some ⟨w8.heap.size, 0, none⟩) 1 1, .pointer (some ⟨B + 2, 0, none⟩)] (w8.alloc (.cells #[.int .i64 (a : Int)] 3)) fun e w' => e = .returned (.tuple #[]) ∧ ∃ F'', LayT w3 (fun b => b = B + 1) (B + 1) (B + 2) F'' w' (ys ++ (rk.take (i + 1)).flatMap rankForm))) := fun w8 n8 => by
        obtain ⟨F8, t8⟩ := T7.next n8
        obtain ⟨_, _, tn, _⟩ := n8
        obtain ⟨_, cl8, nh8, _, _, _⟩ := HALL.out F8 w8 _ t8
        refine ⟨tn.cell m1 ng7, (glay_one F8 (B + 1) (B + 2) a _ w8 t8.st cl8 nh8 (by omega) (by rw [List.length_append, formN_length]; omega)).mono ?_⟩
        rintro e w' ⟨h1, h2⟩
        refine ⟨h1, ?_⟩
        obtain ⟨F9, t9⟩ := t8.next h2
        refine ⟨F9, ?_⟩
        rw [HX2.out, ← List.append_assoc, ← List.append_assoc]
        exact t9
      clear fb cl nh_ fi fB sB t T7 k7 hr hlen2 cl7 ng7 d1
      go_wp2_with fail
      refine HN7.out.mono ?_
      rintro e w8 ⟨rfl, n8⟩
      obtain ⟨m2, hn8⟩ := HN8.out w8 n8
      have HN9 := Lib.hid hn8
      clear n8 hn8 s1 s2 m0 m1
      go_wp2_with fail
      refine HN9.out.mono ?_
      rintro e w9 ⟨rfl, F9, t9⟩
      have T9 := Lib.hid t9
      clear t9 m2
      go_wp2_with fail
      go_roundw
      case rel => exact ⟨i + 1, F9, by omega, by go_num, T9.out⟩
      case measure => simp [intOf]; omega
    · obtain rfl : i = nr := by omega
      have HX : Hid (ys ++ rk.flatMap rankForm = Fm) := by
        show _ = _
        rw [← HYS.out, HFM.out]
        simp only [List.nil_append, List.append_assoc, feedForm, Int.toNat_natCast, l1]
      have TE : Hid (LayT w3 (fun b => b = B + 1) (B + 1) (B + 2) F wr Fm) := by
        show LayT _ _ _ _ _ _ _
        rw [List.take_of_length_le (by rw [l1]; exact Nat.le_refl _), HX.out] at t
        exact t
      obtain ⟨A, nA, cA, ca, oa, ka⟩ := lay_done HB.out K3.out (fun b hb => by omega) (by omega) TE.out
      have OA := Lib.hid oa
      have KA := Lib.hid ka
      clear fb cl nh_ fi fB sB oa ka t
      go_wp2_with fail
      go_ret
      exact ⟨A, nA, cA, rfl, OA.out, KA.out⟩
set_option maxRecDepth 100000 in
set_option maxHeartbeats 4000000 in
theorem glay_k3 (m : FrM) (f : FrV) (w : World) (hf : FrIn w w.heap.size m f) (hm : MayF f) (hkd : f.kind = 3) :
    Calls Tryz.prog 32 #[.agg (frCells m f)] w (NewBytes w (formF f)) := by
  have hfm : formF f = formN 1 3 ++ (formN 1 f.src.toNat ++ (formN 1 f.dst.toNat ++ (formN 8 f.ep ++ (formN 8 f.life ++ restForm f)))) := by
    unfold formF; rw [hkd]; rfl
  rw [restForm_3 hkd] at hfm
  obtain ⟨m1, m6, ms0, ms63, md0, md63, mep, mlf, mbare, mmem, moth, mdata, mfeed, mcred⟩ := hm
  obtain ⟨o1, o2, o3, o4, o5, o6, o7⟩ := moth (by omega)
  obtain ⟨Fm, hFm⟩ : ∃ x, formF f = x := ⟨_, rfl⟩
  rw [hFm] at hfm ⊢
  obtain ⟨k, s, d, ep, lf, fl, gn, sq, fo, co, pay, rk, te, up, hp⟩ := f
  obtain ⟨⟨Ac, nc, cc⟩, ⟨Ap, np, cp⟩, ⟨Ar, nr, cr⟩, ⟨Au, nu, cu⟩, ⟨Ah, nh, ch⟩⟩ := m
  dsimp only at *
  subst hkd
  obtain ⟨s, rfl⟩ : ∃ x : Nat, s = x := ⟨s.toNat, by omega⟩
  obtain ⟨d, rfl⟩ : ∃ x : Nat, d = x := ⟨d.toNat, by omega⟩
  simp only [Int.toNat_natCast] at hfm
  have HFM := Lib.hid hfm
  have hU := hf.nats
  dsimp only [U64] at hU
  obtain ⟨n1, n2, n3, n4, n5, n6⟩ := hU
  obtain ⟨B, hB⟩ : ∃ B, w.heap.size = B := ⟨_, rfl⟩
  rw [hB] at hf
  obtain ⟨fr, hfr⟩ : ∃ fr : FrV, (⟨3, (s : Int), (d : Int), ep, lf, fl, gn, sq, fo, co, pay, rk, te, up, hp⟩ : FrV) = fr := ⟨_, rfl⟩
  obtain ⟨mr, hmr⟩ : ∃ mr : FrM, (⟨⟨Ac, nc, cc⟩, ⟨Ap, np, cp⟩, ⟨Ar, nr, cr⟩, ⟨Au, nu, cu⟩, ⟨Ah, nh, ch⟩⟩ : FrM) = mr := ⟨_, rfl⟩
  obtain ⟨w3, hw3⟩ : ∃ w3, ((w.alloc (.cells (frCells mr fr) 52)).alloc (.cells #[.slice none 0 0] 22)).alloc (.cells #[.func (.func 76) #[] #[.pointer (some ⟨B + 1, 0, none⟩)]] 139) = w3 := ⟨_, rfl⟩
  have k3 : Keep w w3 := by rw [← hw3]; exact (((Keep.refl w).alloc _ _).alloc _ _).alloc _ _
  have b0 : FrBox w3 B 52 mr fr := by
    have h1 := block_new w (frCells mr fr) 52
    rw [hB] at h1
    rw [← hw3]
    exact ((((Keep.refl (w.alloc (.cells (frCells mr fr) 52))).alloc _ _).alloc _ _).block B (by simp; omega)).trans h1
  have b1 : w3.heap[B + 1]? = some (.cells #[.slice none 0 0] 22 (0, 0)) := by
    have h1 := block_new (w.alloc (.cells (frCells mr fr) 52)) #[.slice none 0 0] 22
    rw [show (w.alloc (.cells (frCells mr fr) 52)).heap.size = B + 1 by simp; omega] at h1
    rw [← hw3]
    exact (((Keep.refl _).alloc _ _).block (B + 1) (by simp; omega)).trans h1
  have b2 : ClosC w3 (B + 2) (B + 1) := by
    have h1 := block_new ((w.alloc (.cells (frCells mr fr) 52)).alloc (.cells #[.slice none 0 0] 22)) #[.func (.func 76) #[] #[.pointer (some ⟨B + 1, 0, none⟩)]] 139
    rw [hw3, show ((w.alloc (.cells (frCells mr fr) 52)).alloc (.cells #[.slice none 0 0] 22)).heap.size = B + 2 by simp; omega] at h1
    exact cell_of_one h1
  have s3 : w3.heap.size = B + 3 := by rw [← hw3]; simp; omega
  have t3 : LayT w3 (fun b => b = B + 1) (B + 1) (B + 2) (fun b => b = B + 1) w3 [] :=
    LayT.start ⟨rfl, fun b hb => by omega, none, 0, b1, Own.none_ _ _ _, fun b hb => by simp [Value.ownBlock] at hb⟩
  have hf3 : FrIn w3 B mr fr := by rw [← hmr, ← hfr]; exact hf.keep (by omega) k3
  have HALL : Hid (∀ F wr ys, LayT w3 (fun b => b = B + 1) (B + 1) (B + 2) F wr ys → FrBox wr B 52 mr fr ∧ ClosC wr (B + 2) (B + 1) ∧ ¬ F (B + 2) ∧ FrIn wr B mr fr ∧ (∀ b, F b → B ≤ b) ∧ B ≤ wr.heap.size) := fun F wr ys t =>
    ⟨(t.tn.block B (by omega) (by omega)).trans b0, t.clos b2 (by omega), t.not (by omega) (by omega), hf3.below (t.tn.below (B := B) (fun i hi => by omega) (by omega)), fun b hb => by
      rcases t.new b hb with e | e <;> omega, by have := t.tn.size; omega⟩
  subst hmr
  subst hfr
  simp only [frCells] at hw3
  have T0 := Lib.hid t3
  have K3 := Lib.hid k3
  have HB := Lib.hid hB
  have HW3 := Lib.hid hw3
  obtain ⟨fb, cl, nh_, fi, fB, sB⟩ := HALL.out _ w3 _ t3
  clear b0 b1 b2 t3 hf3 hf hfm k3 mbare mmem moth mdata mfeed mcred s3 m1 m6 hFm
  simp only [frCells]
  have c0 : w3.cell? ⟨B, 0, none⟩ = some (.int .i64 3) := fb.cell 0 _ rfl
  have c1 : w3.cell? ⟨B, 1, none⟩ = some (.int .i64 (s : Int)) := fb.cell 1 _ rfl
  have c2 : w3.cell? ⟨B, 2, none⟩ = some (.int .i64 (d : Int)) := fb.cell 2 _ rfl
  have HN0 : Hid (Calls Tryz.prog 78 #[.slice (some ⟨w3.heap.size, 0, none⟩) 3 3, .pointer (some ⟨B + 2, 0, none⟩)] (w3.alloc (.cells #[.int .i64 3, .int .i64 (s : Int), .int .i64 (d : Int)] 3)) fun e w' => e = .returned (.tuple #[]) ∧ LayN (fun b => b = B + 1) w3 w' (B + 1) ([] ++ (formN 1 3 ++ (formN 1 s ++ formN 1 d)))) :=
    glay_three (fun b => b = B + 1) (B + 1) (B + 2) 3 s d ([]) w3 T0.out.st cl nh_ (by omega) (by omega) (by omega) (by simp [formN_length]; try omega)
  clear fb cl nh_ fi fB sB
  go_enter Tryz.func32, Tryz.ntmps32
  clear hw3
  go_upto_region 5 with fail
  rw [HW3.out]
  go_wp2_with fail
  refine HN0.out.mono ?_
  rintro e w0' ⟨rfl, n0⟩
  obtain ⟨F1, t1⟩ := T0.out.next n0
  have T1 := Lib.hid t1
  obtain ⟨fb, cl, nh_, fi, fB, sB⟩ := HALL.out F1 w0' _ t1
  clear n0 t1 c0 c1 c2
  have c3 : w0'.cell? ⟨B, 3, none⟩ = some (.int .u64 (ep : Int)) := fb.cell 3 _ rfl
  have c4 : w0'.cell? ⟨B, 4, none⟩ = some (.int .u64 (lf : Int)) := fb.cell 4 _ rfl
  have HN1 : Hid (Calls Tryz.prog 79 #[.slice (some ⟨w0'.heap.size, 0, none⟩) 2 2, .pointer (some ⟨B + 2, 0, none⟩)] (w0'.alloc (.cells #[.int .u64 (ep : Int), .int .u64 (lf : Int)] 36)) fun e w' => e = .returned (.tuple #[]) ∧ LayN F1 w0' w' (B + 1) ([] ++ (formN 1 3 ++ (formN 1 s ++ formN 1 d)) ++ (formN 8 ep ++ formN 8 lf))) :=
    glay_eight2 F1 (B + 1) (B + 2) ep lf ([] ++ (formN 1 3 ++ (formN 1 s ++ formN 1 d))) w0' T1.out.st cl nh_ (by omega) (by omega) (by simp [formN_length]; try omega)
  clear fb cl nh_ fi fB sB
  go_wp2_with fail
  refine HN1.out.mono ?_
  rintro e w1' ⟨rfl, n1⟩
  obtain ⟨F2, t2⟩ := T1.out.next n1
  have T2 := Lib.hid t2
  obtain ⟨fb, cl, nh_, fi, fB, sB⟩ := HALL.out F2 w1' _ t2
  clear n1 t2 c3 c4
  have c7 : w1'.cell? ⟨B, 7, none⟩ = some (.int .u64 (sq : Int)) := fb.cell 7 _ rfl
  have c8 : w1'.cell? ⟨B, 8, none⟩ = some (.int .u64 (fo : Int)) := fb.cell 8 _ rfl
  have c0 : w1'.cell? ⟨B, 0, none⟩ = some (.int .i64 3) := fb.cell 0 _ rfl
  have HN2 : Hid (Calls Tryz.prog 79 #[.slice (some ⟨w1'.heap.size, 0, none⟩) 2 2, .pointer (some ⟨B + 2, 0, none⟩)] (w1'.alloc (.cells #[.int .u64 (sq : Int), .int .u64 (fo : Int)] 36)) fun e w' => e = .returned (.tuple #[]) ∧ LayN F2 w1' w' (B + 1) ([] ++ (formN 1 3 ++ (formN 1 s ++ formN 1 d)) ++ (formN 8 ep ++ formN 8 lf) ++ (formN 8 sq ++ formN 8 fo))) :=
    glay_eight2 F2 (B + 1) (B + 2) sq fo ([] ++ (formN 1 3 ++ (formN 1 s ++ formN 1 d)) ++ (formN 8 ep ++ formN 8 lf)) w1' T2.out.st cl nh_ (by omega) (by omega) (by simp [formN_length]; try omega)
  clear fb cl nh_ fi fB sB
  go_wp2_with fail
  refine HN2.out.mono ?_
  rintro e w2' ⟨rfl, n2⟩
  obtain ⟨F3, t3⟩ := T2.out.next n2
  have T3 := Lib.hid t3
  obtain ⟨fb, cl, nh_, fi, fB, sB⟩ := HALL.out F3 w2' _ t3
  clear n2 t3 c7 c8
  have HX : Hid ([] ++ (formN 1 3 ++ (formN 1 s ++ formN 1 d)) ++ (formN 8 ep ++ formN 8 lf) ++ (formN 8 sq ++ formN 8 fo) = Fm) := by
    show _ = _
    rw [HFM.out]
    simp only [List.nil_append, List.append_assoc]
  rw [HX.out] at T3
  obtain ⟨A, nA, cA, ca, oa, ka⟩ := lay_done HB.out K3.out (fun b hb => by omega) (by omega) T3.out
  have OA := Lib.hid oa
  have KA := Lib.hid ka
  clear fb cl nh_ fi fB sB oa ka
  go_wp2_with fail
  go_ret
  exact ⟨A, nA, cA, rfl, OA.out, KA.out⟩
set_option maxRecDepth 100000 in
set_option maxHeartbeats 4000000 in
theorem glay_k4 (m : FrM) (f : FrV) (w : World) (hf : FrIn w w.heap.size m f) (hm : MayF f) (hkd : f.kind = 4) :
    Calls Tryz.prog 32 #[.agg (frCells m f)] w (NewBytes w (formF f)) := by
  have hfm : formF f = formN 1 4 ++ (formN 1 f.src.toNat ++ (formN 1 f.dst.toNat ++ (formN 8 f.ep ++ (formN 8 f.life ++ restForm f)))) := by
    unfold formF; rw [hkd]; rfl
  rw [restForm_4 hkd] at hfm
  obtain ⟨m1, m6, ms0, ms63, md0, md63, mep, mlf, mbare, mmem, moth, mdata, mfeed, mcred⟩ := hm
  obtain ⟨o1, o2, o3, o4, o5, o6, o7⟩ := moth (by omega)
  obtain ⟨Fm, hFm⟩ : ∃ x, formF f = x := ⟨_, rfl⟩
  rw [hFm] at hfm ⊢
  obtain ⟨k, s, d, ep, lf, fl, gn, sq, fo, co, pay, rk, te, up, hp⟩ := f
  obtain ⟨⟨Ac, nc, cc⟩, ⟨Ap, np, cp⟩, ⟨Ar, nr, cr⟩, ⟨Au, nu, cu⟩, ⟨Ah, nh, ch⟩⟩ := m
  dsimp only at *
  subst hkd
  obtain ⟨s, rfl⟩ : ∃ x : Nat, s = x := ⟨s.toNat, by omega⟩
  obtain ⟨d, rfl⟩ : ∃ x : Nat, d = x := ⟨d.toNat, by omega⟩
  simp only [Int.toNat_natCast] at hfm
  have HFM := Lib.hid hfm
  have hU := hf.nats
  dsimp only [U64] at hU
  obtain ⟨n1, n2, n3, n4, n5, n6⟩ := hU
  obtain ⟨B, hB⟩ : ∃ B, w.heap.size = B := ⟨_, rfl⟩
  rw [hB] at hf
  obtain ⟨fr, hfr⟩ : ∃ fr : FrV, (⟨4, (s : Int), (d : Int), ep, lf, fl, gn, sq, fo, co, pay, rk, te, up, hp⟩ : FrV) = fr := ⟨_, rfl⟩
  obtain ⟨mr, hmr⟩ : ∃ mr : FrM, (⟨⟨Ac, nc, cc⟩, ⟨Ap, np, cp⟩, ⟨Ar, nr, cr⟩, ⟨Au, nu, cu⟩, ⟨Ah, nh, ch⟩⟩ : FrM) = mr := ⟨_, rfl⟩
  obtain ⟨w3, hw3⟩ : ∃ w3, ((w.alloc (.cells (frCells mr fr) 52)).alloc (.cells #[.slice none 0 0] 22)).alloc (.cells #[.func (.func 76) #[] #[.pointer (some ⟨B + 1, 0, none⟩)]] 139) = w3 := ⟨_, rfl⟩
  have k3 : Keep w w3 := by rw [← hw3]; exact (((Keep.refl w).alloc _ _).alloc _ _).alloc _ _
  have b0 : FrBox w3 B 52 mr fr := by
    have h1 := block_new w (frCells mr fr) 52
    rw [hB] at h1
    rw [← hw3]
    exact ((((Keep.refl (w.alloc (.cells (frCells mr fr) 52))).alloc _ _).alloc _ _).block B (by simp; omega)).trans h1
  have b1 : w3.heap[B + 1]? = some (.cells #[.slice none 0 0] 22 (0, 0)) := by
    have h1 := block_new (w.alloc (.cells (frCells mr fr) 52)) #[.slice none 0 0] 22
    rw [show (w.alloc (.cells (frCells mr fr) 52)).heap.size = B + 1 by simp; omega] at h1
    rw [← hw3]
    exact (((Keep.refl _).alloc _ _).block (B + 1) (by simp; omega)).trans h1
  have b2 : ClosC w3 (B + 2) (B + 1) := by
    have h1 := block_new ((w.alloc (.cells (frCells mr fr) 52)).alloc (.cells #[.slice none 0 0] 22)) #[.func (.func 76) #[] #[.pointer (some ⟨B + 1, 0, none⟩)]] 139
    rw [hw3, show ((w.alloc (.cells (frCells mr fr) 52)).alloc (.cells #[.slice none 0 0] 22)).heap.size = B + 2 by simp; omega] at h1
    exact cell_of_one h1
  have s3 : w3.heap.size = B + 3 := by rw [← hw3]; simp; omega
  have t3 : LayT w3 (fun b => b = B + 1) (B + 1) (B + 2) (fun b => b = B + 1) w3 [] :=
    LayT.start ⟨rfl, fun b hb => by omega, none, 0, b1, Own.none_ _ _ _, fun b hb => by simp [Value.ownBlock] at hb⟩
  have hf3 : FrIn w3 B mr fr := by rw [← hmr, ← hfr]; exact hf.keep (by omega) k3
  have HALL : Hid (∀ F wr ys, LayT w3 (fun b => b = B + 1) (B + 1) (B + 2) F wr ys → FrBox wr B 52 mr fr ∧ ClosC wr (B + 2) (B + 1) ∧ ¬ F (B + 2) ∧ FrIn wr B mr fr ∧ (∀ b, F b → B ≤ b) ∧ B ≤ wr.heap.size) := fun F wr ys t =>
    ⟨(t.tn.block B (by omega) (by omega)).trans b0, t.clos b2 (by omega), t.not (by omega) (by omega), hf3.below (t.tn.below (B := B) (fun i hi => by omega) (by omega)), fun b hb => by
      rcases t.new b hb with e | e <;> omega, by have := t.tn.size; omega⟩
  subst hmr
  subst hfr
  simp only [frCells] at hw3
  have T0 := Lib.hid t3
  have K3 := Lib.hid k3
  have HB := Lib.hid hB
  have HW3 := Lib.hid hw3
  obtain ⟨fb, cl, nh_, fi, fB, sB⟩ := HALL.out _ w3 _ t3
  clear b0 b1 b2 t3 hf3 hf hfm k3 mbare mmem moth mdata mfeed mcred s3 m1 m6 hFm
  simp only [frCells]
  have c0 : w3.cell? ⟨B, 0, none⟩ = some (.int .i64 4) := fb.cell 0 _ rfl
  have c1 : w3.cell? ⟨B, 1, none⟩ = some (.int .i64 (s : Int)) := fb.cell 1 _ rfl
  have c2 : w3.cell? ⟨B, 2, none⟩ = some (.int .i64 (d : Int)) := fb.cell 2 _ rfl
  have HN0 : Hid (Calls Tryz.prog 78 #[.slice (some ⟨w3.heap.size, 0, none⟩) 3 3, .pointer (some ⟨B + 2, 0, none⟩)] (w3.alloc (.cells #[.int .i64 4, .int .i64 (s : Int), .int .i64 (d : Int)] 3)) fun e w' => e = .returned (.tuple #[]) ∧ LayN (fun b => b = B + 1) w3 w' (B + 1) ([] ++ (formN 1 4 ++ (formN 1 s ++ formN 1 d)))) :=
    glay_three (fun b => b = B + 1) (B + 1) (B + 2) 4 s d ([]) w3 T0.out.st cl nh_ (by omega) (by omega) (by omega) (by simp [formN_length]; try omega)
  clear fb cl nh_ fi fB sB
  go_enter Tryz.func32, Tryz.ntmps32
  clear hw3
  go_upto_region 5 with fail
  rw [HW3.out]
  go_wp2_with fail
  refine HN0.out.mono ?_
  rintro e w0' ⟨rfl, n0⟩
  obtain ⟨F1, t1⟩ := T0.out.next n0
  have T1 := Lib.hid t1
  obtain ⟨fb, cl, nh_, fi, fB, sB⟩ := HALL.out F1 w0' _ t1
  clear n0 t1 c0 c1 c2
  have c3 : w0'.cell? ⟨B, 3, none⟩ = some (.int .u64 (ep : Int)) := fb.cell 3 _ rfl
  have c4 : w0'.cell? ⟨B, 4, none⟩ = some (.int .u64 (lf : Int)) := fb.cell 4 _ rfl
  have HN1 : Hid (Calls Tryz.prog 79 #[.slice (some ⟨w0'.heap.size, 0, none⟩) 2 2, .pointer (some ⟨B + 2, 0, none⟩)] (w0'.alloc (.cells #[.int .u64 (ep : Int), .int .u64 (lf : Int)] 36)) fun e w' => e = .returned (.tuple #[]) ∧ LayN F1 w0' w' (B + 1) ([] ++ (formN 1 4 ++ (formN 1 s ++ formN 1 d)) ++ (formN 8 ep ++ formN 8 lf))) :=
    glay_eight2 F1 (B + 1) (B + 2) ep lf ([] ++ (formN 1 4 ++ (formN 1 s ++ formN 1 d))) w0' T1.out.st cl nh_ (by omega) (by omega) (by simp [formN_length]; try omega)
  clear fb cl nh_ fi fB sB
  go_wp2_with fail
  refine HN1.out.mono ?_
  rintro e w1' ⟨rfl, n1⟩
  obtain ⟨F2, t2⟩ := T1.out.next n1
  have T2 := Lib.hid t2
  obtain ⟨fb, cl, nh_, fi, fB, sB⟩ := HALL.out F2 w1' _ t2
  clear n1 t2 c3 c4
  have c7 : w1'.cell? ⟨B, 7, none⟩ = some (.int .u64 (sq : Int)) := fb.cell 7 _ rfl
  have c0 : w1'.cell? ⟨B, 0, none⟩ = some (.int .i64 4) := fb.cell 0 _ rfl
  have HN2 : Hid (Calls Tryz.prog 79 #[.slice (some ⟨w1'.heap.size, 0, none⟩) 1 1, .pointer (some ⟨B + 2, 0, none⟩)] (w1'.alloc (.cells #[.int .u64 (sq : Int)] 36)) fun e w' => e = .returned (.tuple #[]) ∧ LayN F2 w1' w' (B + 1) ([] ++ (formN 1 4 ++ (formN 1 s ++ formN 1 d)) ++ (formN 8 ep ++ formN 8 lf) ++ formN 8 sq)) :=
    glay_eight F2 (B + 1) (B + 2) sq ([] ++ (formN 1 4 ++ (formN 1 s ++ formN 1 d)) ++ (formN 8 ep ++ formN 8 lf)) w1' T2.out.st cl nh_ (by omega) (by simp [formN_length]; try omega)
  clear fb cl nh_ fi fB sB
  go_wp2_with fail
  refine HN2.out.mono ?_
  rintro e w2' ⟨rfl, n2⟩
  obtain ⟨F3, t3⟩ := T2.out.next n2
  have T3 := Lib.hid t3
  obtain ⟨fb, cl, nh_, fi, fB, sB⟩ := HALL.out F3 w2' _ t3
  clear n2 t3 c7
  have HX : Hid ([] ++ (formN 1 4 ++ (formN 1 s ++ formN 1 d)) ++ (formN 8 ep ++ formN 8 lf) ++ formN 8 sq = Fm) := by
    show _ = _
    rw [HFM.out]
    simp only [List.nil_append, List.append_assoc]
  rw [HX.out] at T3
  obtain ⟨A, nA, cA, ca, oa, ka⟩ := lay_done HB.out K3.out (fun b hb => by omega) (by omega) T3.out
  have OA := Lib.hid oa
  have KA := Lib.hid ka
  clear fb cl nh_ fi fB sB oa ka
  go_wp2_with fail
  go_ret
  exact ⟨A, nA, cA, rfl, OA.out, KA.out⟩
set_option maxRecDepth 100000 in
set_option maxHeartbeats 4000000 in
theorem glay_k5 (m : FrM) (f : FrV) (w : World) (hf : FrIn w w.heap.size m f) (hm : MayF f) (hkd : f.kind = 5) :
    Calls Tryz.prog 32 #[.agg (frCells m f)] w (NewBytes w (formF f)) := by
  have hfm : formF f = formN 1 5 ++ (formN 1 f.src.toNat ++ (formN 1 f.dst.toNat ++ (formN 8 f.ep ++ (formN 8 f.life ++ restForm f)))) := by
    unfold formF; rw [hkd]; rfl
  rw [restForm_5 hkd] at hfm
  obtain ⟨m1, m6, ms0, ms63, md0, md63, mep, mlf, mbare, mmem, moth, mdata, mfeed, mcred⟩ := hm
  have mto := (mmem hkd).2.2
  have HTO := Lib.hid mto
  obtain ⟨Fm, hFm⟩ : ∃ x, formF f = x := ⟨_, rfl⟩
  rw [hFm] at hfm ⊢
  obtain ⟨k, s, d, ep, lf, fl, gn, sq, fo, co, pay, rk, te, up, hp⟩ := f
  obtain ⟨⟨Ac, nc, cc⟩, ⟨Ap, np, cp⟩, ⟨Ar, nr, cr⟩, ⟨Au, nu, cu⟩, ⟨Ah, nh, ch⟩⟩ := m
  dsimp only at *
  subst hkd
  obtain ⟨s, rfl⟩ : ∃ x : Nat, s = x := ⟨s.toNat, by omega⟩
  obtain ⟨d, rfl⟩ : ∃ x : Nat, d = x := ⟨d.toNat, by omega⟩
  simp only [Int.toNat_natCast] at hfm
  have HFM := Lib.hid hfm
  have hU := hf.nats
  dsimp only [U64] at hU
  obtain ⟨n1, n2, n3, n4, n5, n6⟩ := hU
  obtain ⟨B, hB⟩ : ∃ B, w.heap.size = B := ⟨_, rfl⟩
  rw [hB] at hf
  obtain ⟨fr, hfr⟩ : ∃ fr : FrV, (⟨5, (s : Int), (d : Int), ep, lf, fl, gn, sq, fo, co, pay, rk, te, up, hp⟩ : FrV) = fr := ⟨_, rfl⟩
  obtain ⟨mr, hmr⟩ : ∃ mr : FrM, (⟨⟨Ac, nc, cc⟩, ⟨Ap, np, cp⟩, ⟨Ar, nr, cr⟩, ⟨Au, nu, cu⟩, ⟨Ah, nh, ch⟩⟩ : FrM) = mr := ⟨_, rfl⟩
  obtain ⟨w3, hw3⟩ : ∃ w3, ((w.alloc (.cells (frCells mr fr) 52)).alloc (.cells #[.slice none 0 0] 22)).alloc (.cells #[.func (.func 76) #[] #[.pointer (some ⟨B + 1, 0, none⟩)]] 139) = w3 := ⟨_, rfl⟩
  have k3 : Keep w w3 := by rw [← hw3]; exact (((Keep.refl w).alloc _ _).alloc _ _).alloc _ _
  have b0 : FrBox w3 B 52 mr fr := by
    have h1 := block_new w (frCells mr fr) 52
    rw [hB] at h1
    rw [← hw3]
    exact ((((Keep.refl (w.alloc (.cells (frCells mr fr) 52))).alloc _ _).alloc _ _).block B (by simp; omega)).trans h1
  have b1 : w3.heap[B + 1]? = some (.cells #[.slice none 0 0] 22 (0, 0)) := by
    have h1 := block_new (w.alloc (.cells (frCells mr fr) 52)) #[.slice none 0 0] 22
    rw [show (w.alloc (.cells (frCells mr fr) 52)).heap.size = B + 1 by simp; omega] at h1
    rw [← hw3]
    exact (((Keep.refl _).alloc _ _).block (B + 1) (by simp; omega)).trans h1
  have b2 : ClosC w3 (B + 2) (B + 1) := by
    have h1 := block_new ((w.alloc (.cells (frCells mr fr) 52)).alloc (.cells #[.slice none 0 0] 22)) #[.func (.func 76) #[] #[.pointer (some ⟨B + 1, 0, none⟩)]] 139
    rw [hw3, show ((w.alloc (.cells (frCells mr fr) 52)).alloc (.cells #[.slice none 0 0] 22)).heap.size = B + 2 by simp; omega] at h1
    exact cell_of_one h1
  have s3 : w3.heap.size = B + 3 := by rw [← hw3]; simp; omega
  have t3 : LayT w3 (fun b => b = B + 1) (B + 1) (B + 2) (fun b => b = B + 1) w3 [] :=
    LayT.start ⟨rfl, fun b hb => by omega, none, 0, b1, Own.none_ _ _ _, fun b hb => by simp [Value.ownBlock] at hb⟩
  have hf3 : FrIn w3 B mr fr := by rw [← hmr, ← hfr]; exact hf.keep (by omega) k3
  have HALL : Hid (∀ F wr ys, LayT w3 (fun b => b = B + 1) (B + 1) (B + 2) F wr ys → FrBox wr B 52 mr fr ∧ ClosC wr (B + 2) (B + 1) ∧ ¬ F (B + 2) ∧ FrIn wr B mr fr ∧ (∀ b, F b → B ≤ b) ∧ B ≤ wr.heap.size) := fun F wr ys t =>
    ⟨(t.tn.block B (by omega) (by omega)).trans b0, t.clos b2 (by omega), t.not (by omega) (by omega), hf3.below (t.tn.below (B := B) (fun i hi => by omega) (by omega)), fun b hb => by
      rcases t.new b hb with e | e <;> omega, by have := t.tn.size; omega⟩
  subst hmr
  subst hfr
  simp only [frCells] at hw3
  have T0 := Lib.hid t3
  have K3 := Lib.hid k3
  have HB := Lib.hid hB
  have HW3 := Lib.hid hw3
  obtain ⟨fb, cl, nh_, fi, fB, sB⟩ := HALL.out _ w3 _ t3
  clear b0 b1 b2 t3 hf3 hf hfm k3 mbare mmem moth mdata mfeed mcred s3 m1 m6 hFm
  simp only [frCells]
  have c0 : w3.cell? ⟨B, 0, none⟩ = some (.int .i64 5) := fb.cell 0 _ rfl
  have c1 : w3.cell? ⟨B, 1, none⟩ = some (.int .i64 (s : Int)) := fb.cell 1 _ rfl
  have c2 : w3.cell? ⟨B, 2, none⟩ = some (.int .i64 (d : Int)) := fb.cell 2 _ rfl
  have HN0 : Hid (Calls Tryz.prog 78 #[.slice (some ⟨w3.heap.size, 0, none⟩) 3 3, .pointer (some ⟨B + 2, 0, none⟩)] (w3.alloc (.cells #[.int .i64 5, .int .i64 (s : Int), .int .i64 (d : Int)] 3)) fun e w' => e = .returned (.tuple #[]) ∧ LayN (fun b => b = B + 1) w3 w' (B + 1) ([] ++ (formN 1 5 ++ (formN 1 s ++ formN 1 d)))) :=
    glay_three (fun b => b = B + 1) (B + 1) (B + 2) 5 s d ([]) w3 T0.out.st cl nh_ (by omega) (by omega) (by omega) (by simp [formN_length]; try omega)
  clear fb cl nh_ fi fB sB
  go_enter Tryz.func32, Tryz.ntmps32
  clear hw3
  go_upto_region 5 with fail
  rw [HW3.out]
  go_wp2_with fail
  refine HN0.out.mono ?_
  rintro e w0' ⟨rfl, n0⟩
  obtain ⟨F1, t1⟩ := T0.out.next n0
  have T1 := Lib.hid t1
  obtain ⟨fb, cl, nh_, fi, fB, sB⟩ := HALL.out F1 w0' _ t1
  clear n0 t1 c0 c1 c2
  have c3 : w0'.cell? ⟨B, 3, none⟩ = some (.int .u64 (ep : Int)) := fb.cell 3 _ rfl
  have c4 : w0'.cell? ⟨B, 4, none⟩ = some (.int .u64 (lf : Int)) := fb.cell 4 _ rfl
  have HN1 : Hid (Calls Tryz.prog 79 #[.slice (some ⟨w0'.heap.size, 0, none⟩) 2 2, .pointer (some ⟨B + 2, 0, none⟩)] (w0'.alloc (.cells #[.int .u64 (ep : Int), .int .u64 (lf : Int)] 36)) fun e w' => e = .returned (.tuple #[]) ∧ LayN F1 w0' w' (B + 1) ([] ++ (formN 1 5 ++ (formN 1 s ++ formN 1 d)) ++ (formN 8 ep ++ formN 8 lf))) :=
    glay_eight2 F1 (B + 1) (B + 2) ep lf ([] ++ (formN 1 5 ++ (formN 1 s ++ formN 1 d))) w0' T1.out.st cl nh_ (by omega) (by omega) (by simp [formN_length]; try omega)
  clear fb cl nh_ fi fB sB
  go_wp2_with fail
  refine HN1.out.mono ?_
  rintro e w1' ⟨rfl, n1⟩
  obtain ⟨F2, t2⟩ := T1.out.next n1
  have T2 := Lib.hid t2
  obtain ⟨fb, cl, nh_, fi, fB, sB⟩ := HALL.out F2 w1' _ t2
  clear n1 t2 c3 c4
  have c12 : w1'.cell? ⟨B, 12, none⟩ = some (.int .u64 (te : Int)) := fb.cell 12 _ rfl
  have c0 : w1'.cell? ⟨B, 0, none⟩ = some (.int .i64 5) := fb.cell 0 _ rfl
  have HN2 : Hid (Calls Tryz.prog 79 #[.slice (some ⟨w1'.heap.size, 0, none⟩) 1 1, .pointer (some ⟨B + 2, 0, none⟩)] (w1'.alloc (.cells #[.int .u64 (te : Int)] 36)) fun e w' => e = .returned (.tuple #[]) ∧ LayN F2 w1' w' (B + 1) ([] ++ (formN 1 5 ++ (formN 1 s ++ formN 1 d)) ++ (formN 8 ep ++ formN 8 lf) ++ formN 8 te)) :=
    glay_eight F2 (B + 1) (B + 2) te ([] ++ (formN 1 5 ++ (formN 1 s ++ formN 1 d)) ++ (formN 8 ep ++ formN 8 lf)) w1' T2.out.st cl nh_ (by omega) (by simp [formN_length]; try omega)
  clear fb cl nh_ fi fB sB
  go_wp2_with fail
  refine HN2.out.mono ?_
  rintro e w2' ⟨rfl, n2⟩
  obtain ⟨F3, t3⟩ := T2.out.next n2
  have T3 := Lib.hid t3
  obtain ⟨fb, cl, nh_, fi, fB, sB⟩ := HALL.out F3 w2' _ t3
  clear n2 t3 c12
  have c12 : w2'.cell? ⟨B, 12, none⟩ = some (.int .u64 (te : Int)) := fb.cell 12 _ rfl
  have c13 : w2'.cell? ⟨B, 13, none⟩ = some (.slice Au nu cu) := fb.cell 13 _ rfl
  have c14 : w2'.cell? ⟨B, 14, none⟩ = some (.slice Ah nh ch) := fb.cell 14 _ rfl
  have HN3 : Hid (Calls Tryz.prog 80 #[.agg #[.int .u64 (te : Int), .slice Au nu cu, .slice Ah nh ch], .func (.func 78) #[] #[.pointer (some ⟨B + 2, 0, none⟩)]] w2' fun e w' => e = .returned (.tuple #[]) ∧ LayN F3 w2' w' (B + 1) ([] ++ (formN 1 5 ++ (formN 1 s ++ formN 1 d)) ++ (formN 8 ep ++ formN 8 lf) ++ formN 8 te ++ topoTail up hp)) :=
    glay_topo F3 B (B + 1) (B + 2) te ⟨Au, nu, cu⟩ ⟨Ah, nh, ch⟩ up hp ([] ++ (formN 1 5 ++ (formN 1 s ++ formN 1 d)) ++ (formN 8 ep ++ formN 8 lf) ++ formN 8 te) w2' T3.out.st cl nh_ fB sB fi.up fi.hp HTO.out (by simp [formN_length]; try omega)
  clear fb cl nh_ fi fB sB
  go_wp2_with fail
  refine HN3.out.mono ?_
  rintro e w3' ⟨rfl, n3⟩
  obtain ⟨F4, t4⟩ := T3.out.next n3
  have T4 := Lib.hid t4
  obtain ⟨fb, cl, nh_, fi, fB, sB⟩ := HALL.out F4 w3' _ t4
  clear n3 t4 c12 c13 c14
  have HX : Hid ([] ++ (formN 1 5 ++ (formN 1 s ++ formN 1 d)) ++ (formN 8 ep ++ formN 8 lf) ++ formN 8 te ++ topoTail up hp = Fm) := by
    show _ = _
    rw [HFM.out]
    simp only [List.nil_append, List.append_assoc, topoForm, topoTail]
  rw [HX.out] at T4
  obtain ⟨A, nA, cA, ca, oa, ka⟩ := lay_done HB.out K3.out (fun b hb => by omega) (by omega) T4.out
  have OA := Lib.hid oa
  have KA := Lib.hid ka
  clear fb cl nh_ fi fB sB oa ka
  go_wp2_with fail
  go_ret
  exact ⟨A, nA, cA, rfl, OA.out, KA.out⟩
set_option maxRecDepth 100000 in
set_option maxHeartbeats 4000000 in
theorem glay_k6 (m : FrM) (f : FrV) (w : World) (hf : FrIn w w.heap.size m f) (hm : MayF f) (hkd : f.kind = 6) :
    Calls Tryz.prog 32 #[.agg (frCells m f)] w (NewBytes w (formF f)) := by
  have hfm : formF f = formN 1 6 ++ (formN 1 f.src.toNat ++ (formN 1 f.dst.toNat ++ (formN 8 f.ep ++ (formN 8 f.life ++ restForm f)))) := by
    unfold formF; rw [hkd]; rfl
  rw [restForm_6 hkd] at hfm
  obtain ⟨m1, m6, ms0, ms63, md0, md63, mep, mlf, mbare, mmem, moth, mdata, mfeed, mcred⟩ := hm
  obtain ⟨o1, o2, o3, o4, o5, o6, o7⟩ := moth (by omega)
  obtain ⟨Fm, hFm⟩ : ∃ x, formF f = x := ⟨_, rfl⟩
  rw [hFm] at hfm ⊢
  obtain ⟨k, s, d, ep, lf, fl, gn, sq, fo, co, pay, rk, te, up, hp⟩ := f
  obtain ⟨⟨Ac, nc, cc⟩, ⟨Ap, np, cp⟩, ⟨Ar, nr, cr⟩, ⟨Au, nu, cu⟩, ⟨Ah, nh, ch⟩⟩ := m
  dsimp only at *
  subst hkd
  obtain ⟨s, rfl⟩ : ∃ x : Nat, s = x := ⟨s.toNat, by omega⟩
  obtain ⟨d, rfl⟩ : ∃ x : Nat, d = x := ⟨d.toNat, by omega⟩
  obtain ⟨fl, rfl⟩ : ∃ x : Nat, fl = x := ⟨fl.toNat, by omega⟩
  simp only [Int.toNat_natCast] at hfm
  have HFM := Lib.hid hfm
  have hU := hf.nats
  dsimp only [U64] at hU
  obtain ⟨n1, n2, n3, n4, n5, n6⟩ := hU
  obtain ⟨B, hB⟩ : ∃ B, w.heap.size = B := ⟨_, rfl⟩
  rw [hB] at hf
  obtain ⟨fr, hfr⟩ : ∃ fr : FrV, (⟨6, (s : Int), (d : Int), ep, lf, fl, gn, sq, fo, co, pay, rk, te, up, hp⟩ : FrV) = fr := ⟨_, rfl⟩
  obtain ⟨mr, hmr⟩ : ∃ mr : FrM, (⟨⟨Ac, nc, cc⟩, ⟨Ap, np, cp⟩, ⟨Ar, nr, cr⟩, ⟨Au, nu, cu⟩, ⟨Ah, nh, ch⟩⟩ : FrM) = mr := ⟨_, rfl⟩
  obtain ⟨w3, hw3⟩ : ∃ w3, ((w.alloc (.cells (frCells mr fr) 52)).alloc (.cells #[.slice none 0 0] 22)).alloc (.cells #[.func (.func 76) #[] #[.pointer (some ⟨B + 1, 0, none⟩)]] 139) = w3 := ⟨_, rfl⟩
  have k3 : Keep w w3 := by rw [← hw3]; exact (((Keep.refl w).alloc _ _).alloc _ _).alloc _ _
  have b0 : FrBox w3 B 52 mr fr := by
    have h1 := block_new w (frCells mr fr) 52
    rw [hB] at h1
    rw [← hw3]
    exact ((((Keep.refl (w.alloc (.cells (frCells mr fr) 52))).alloc _ _).alloc _ _).block B (by simp; omega)).trans h1
  have b1 : w3.heap[B + 1]? = some (.cells #[.slice none 0 0] 22 (0, 0)) := by
    have h1 := block_new (w.alloc (.cells (frCells mr fr) 52)) #[.slice none 0 0] 22
    rw [show (w.alloc (.cells (frCells mr fr) 52)).heap.size = B + 1 by simp; omega] at h1
    rw [← hw3]
    exact (((Keep.refl _).alloc _ _).block (B + 1) (by simp; omega)).trans h1
  have b2 : ClosC w3 (B + 2) (B + 1) := by
    have h1 := block_new ((w.alloc (.cells (frCells mr fr) 52)).alloc (.cells #[.slice none 0 0] 22)) #[.func (.func 76) #[] #[.pointer (some ⟨B + 1, 0, none⟩)]] 139
    rw [hw3, show ((w.alloc (.cells (frCells mr fr) 52)).alloc (.cells #[.slice none 0 0] 22)).heap.size = B + 2 by simp; omega] at h1
    exact cell_of_one h1
  have s3 : w3.heap.size = B + 3 := by rw [← hw3]; simp; omega
  have t3 : LayT w3 (fun b => b = B + 1) (B + 1) (B + 2) (fun b => b = B + 1) w3 [] :=
    LayT.start ⟨rfl, fun b hb => by omega, none, 0, b1, Own.none_ _ _ _, fun b hb => by simp [Value.ownBlock] at hb⟩
  have hf3 : FrIn w3 B mr fr := by rw [← hmr, ← hfr]; exact hf.keep (by omega) k3
  have HALL : Hid (∀ F wr ys, LayT w3 (fun b => b = B + 1) (B + 1) (B + 2) F wr ys → FrBox wr B 52 mr fr ∧ ClosC wr (B + 2) (B + 1) ∧ ¬ F (B + 2) ∧ FrIn wr B mr fr ∧ (∀ b, F b → B ≤ b) ∧ B ≤ wr.heap.size) := fun F wr ys t =>
    ⟨(t.tn.block B (by omega) (by omega)).trans b0, t.clos b2 (by omega), t.not (by omega) (by omega), hf3.below (t.tn.below (B := B) (fun i hi => by omega) (by omega)), fun b hb => by
      rcases t.new b hb with e | e <;> omega, by have := t.tn.size; omega⟩
  subst hmr
  subst hfr
  simp only [frCells] at hw3
  have T0 := Lib.hid t3
  have K3 := Lib.hid k3
  have HB := Lib.hid hB
  have HW3 := Lib.hid hw3
  obtain ⟨fb, cl, nh_, fi, fB, sB⟩ := HALL.out _ w3 _ t3
  clear b0 b1 b2 t3 hf3 hf hfm k3 mbare mmem moth mdata mfeed mcred s3 m1 m6 hFm
  simp only [frCells]
  have c0 : w3.cell? ⟨B, 0, none⟩ = some (.int .i64 6) := fb.cell 0 _ rfl
  have c1 : w3.cell? ⟨B, 1, none⟩ = some (.int .i64 (s : Int)) := fb.cell 1 _ rfl
  have c2 : w3.cell? ⟨B, 2, none⟩ = some (.int .i64 (d : Int)) := fb.cell 2 _ rfl
  have HN0 : Hid (Calls Tryz.prog 78 #[.slice (some ⟨w3.heap.size, 0, none⟩) 3 3, .pointer (some ⟨B + 2, 0, none⟩)] (w3.alloc (.cells #[.int .i64 6, .int .i64 (s : Int), .int .i64 (d : Int)] 3)) fun e w' => e = .returned (.tuple #[]) ∧ LayN (fun b => b = B + 1) w3 w' (B + 1) ([] ++ (formN 1 6 ++ (formN 1 s ++ formN 1 d)))) :=
    glay_three (fun b => b = B + 1) (B + 1) (B + 2) 6 s d ([]) w3 T0.out.st cl nh_ (by omega) (by omega) (by omega) (by simp [formN_length]; try omega)
  clear fb cl nh_ fi fB sB
  go_enter Tryz.func32, Tryz.ntmps32
  clear hw3
  go_upto_region 5 with fail
  rw [HW3.out]
  go_wp2_with fail
  refine HN0.out.mono ?_
  rintro e w0' ⟨rfl, n0⟩
  obtain ⟨F1, t1⟩ := T0.out.next n0
  have T1 := Lib.hid t1
  obtain ⟨fb, cl, nh_, fi, fB, sB⟩ := HALL.out F1 w0' _ t1
  clear n0 t1 c0 c1 c2
  have c3 : w0'.cell? ⟨B, 3, none⟩ = some (.int .u64 (ep : Int)) := fb.cell 3 _ rfl
  have c4 : w0'.cell? ⟨B, 4, none⟩ = some (.int .u64 (lf : Int)) := fb.cell 4 _ rfl
  have HN1 : Hid (Calls Tryz.prog 79 #[.slice (some ⟨w0'.heap.size, 0, none⟩) 2 2, .pointer (some ⟨B + 2, 0, none⟩)] (w0'.alloc (.cells #[.int .u64 (ep : Int), .int .u64 (lf : Int)] 36)) fun e w' => e = .returned (.tuple #[]) ∧ LayN F1 w0' w' (B + 1) ([] ++ (formN 1 6 ++ (formN 1 s ++ formN 1 d)) ++ (formN 8 ep ++ formN 8 lf))) :=
    glay_eight2 F1 (B + 1) (B + 2) ep lf ([] ++ (formN 1 6 ++ (formN 1 s ++ formN 1 d))) w0' T1.out.st cl nh_ (by omega) (by omega) (by simp [formN_length]; try omega)
  clear fb cl nh_ fi fB sB
  go_wp2_with fail
  refine HN1.out.mono ?_
  rintro e w1' ⟨rfl, n1⟩
  obtain ⟨F2, t2⟩ := T1.out.next n1
  have T2 := Lib.hid t2
  obtain ⟨fb, cl, nh_, fi, fB, sB⟩ := HALL.out F2 w1' _ t2
  clear n1 t2 c3 c4
  have c5 : w1'.cell? ⟨B, 5, none⟩ = some (.int .i64 (fl : Int)) := fb.cell 5 _ rfl
  have c0 : w1'.cell? ⟨B, 0, none⟩ = some (.int .i64 6) := fb.cell 0 _ rfl
  have HN2 : Hid (Calls Tryz.prog 78 #[.slice (some ⟨w1'.heap.size, 0, none⟩) 1 1, .pointer (some ⟨B + 2, 0, none⟩)] (w1'.alloc (.cells #[.int .i64 (fl : Int)] 3)) fun e w' => e = .returned (.tuple #[]) ∧ LayN F2 w1' w' (B + 1) ([] ++ (formN 1 6 ++ (formN 1 s ++ formN 1 d)) ++ (formN 8 ep ++ formN 8 lf) ++ formN 1 fl)) :=
    glay_one F2 (B + 1) (B + 2) fl ([] ++ (formN 1 6 ++ (formN 1 s ++ formN 1 d)) ++ (formN 8 ep ++ formN 8 lf)) w1' T2.out.st cl nh_ (by omega) (by simp [formN_length]; try omega)
  clear fb cl nh_ fi fB sB
  go_wp2_with fail
  refine HN2.out.mono ?_
  rintro e w2' ⟨rfl, n2⟩
  obtain ⟨F3, t3⟩ := T2.out.next n2
  have T3 := Lib.hid t3
  obtain ⟨fb, cl, nh_, fi, fB, sB⟩ := HALL.out F3 w2' _ t3
  clear n2 t3 c5
  have c6 : w2'.cell? ⟨B, 6, none⟩ = some (.int .u64 (gn : Int)) := fb.cell 6 _ rfl
  have HN3 : Hid (Calls Tryz.prog 79 #[.slice (some ⟨w2'.heap.size, 0, none⟩) 1 1, .pointer (some ⟨B + 2, 0, none⟩)] (w2'.alloc (.cells #[.int .u64 (gn : Int)] 36)) fun e w' => e = .returned (.tuple #[]) ∧ LayN F3 w2' w' (B + 1) ([] ++ (formN 1 6 ++ (formN 1 s ++ formN 1 d)) ++ (formN 8 ep ++ formN 8 lf) ++ formN 1 fl ++ formN 8 gn)) :=
    glay_eight F3 (B + 1) (B + 2) gn ([] ++ (formN 1 6 ++ (formN 1 s ++ formN 1 d)) ++ (formN 8 ep ++ formN 8 lf) ++ formN 1 fl) w2' T3.out.st cl nh_ (by omega) (by simp [formN_length]; try omega)
  clear fb cl nh_ fi fB sB
  go_wp2_with fail
  refine HN3.out.mono ?_
  rintro e w3' ⟨rfl, n3⟩
  obtain ⟨F4, t4⟩ := T3.out.next n3
  have T4 := Lib.hid t4
  obtain ⟨fb, cl, nh_, fi, fB, sB⟩ := HALL.out F4 w3' _ t4
  clear n3 t4 c6
  have HX : Hid ([] ++ (formN 1 6 ++ (formN 1 s ++ formN 1 d)) ++ (formN 8 ep ++ formN 8 lf) ++ formN 1 fl ++ formN 8 gn = Fm) := by
    show _ = _
    rw [HFM.out]
    simp only [List.nil_append, List.append_assoc]
  rw [HX.out] at T4
  obtain ⟨A, nA, cA, ca, oa, ka⟩ := lay_done HB.out K3.out (fun b hb => by omega) (by omega) T4.out
  have OA := Lib.hid oa
  have KA := Lib.hid ka
  clear fb cl nh_ fi fB sB oa ka
  go_wp2_with fail
  go_ret
  exact ⟨A, nA, cA, rfl, OA.out, KA.out⟩
theorem glay_any (m : FrM) (f : FrV) (w : World) (hf : FrIn w w.heap.size m f) (hm : MayF f) : Calls Tryz.prog 32 #[.agg (frCells m f)] w (NewBytes w (formF f)) := by
  have h1 := hm.k1
  have h6 := hm.k6
  by_cases e1 : f.kind = 1
  · exact glay_k1 m f w hf hm e1
  by_cases e2 : f.kind = 2
  · exact glay_k2 m f w hf hm e2
  by_cases e3 : f.kind = 3
  · exact glay_k3 m f w hf hm e3
  by_cases e4 : f.kind = 4
  · exact glay_k4 m f w hf hm e4
  by_cases e5 : f.kind = 5
  · exact glay_k5 m f w hf hm e5
  exact glay_k6 m f w hf hm (by omega)
end Go.Proofs.YtifopodnceopjaaGreatDoor
