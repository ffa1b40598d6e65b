/- The landed source: Submit. -/
import Derived.Test.YtgelalbmhllccaaGreatQaq
import Derived.Test.YtgelalbmhllccaaGreatQaj
import Derived.Test.YtgelalbmhllccaaGreatQap
import Derived.Test.YtgelalbmhllccaaGreatQae
import Derived.Test.YtgelalbmhllccaaGreatQad
namespace Go.Proofs.YtgelalbmhllccaaGreat
open Go.RowKit
set_option linter.unusedVariables false
set_option linter.unusedSimpArgs false
section
variable {w w' : World} {F G : Nat → Prop} {b g s : Nat} {A1 : Option Addr} {n1 c1 : Nat} {A2 : Option Addr} {n2 c2 : Nat} {A3 : Option Addr} {n3 c3 : Nat} {xs cs : List Nat} {M : List (List Nat)} {cl : Bool}
set_option maxRecDepth 100000 in
set_option maxHeartbeats 2000000 in
theorem isfull_any (h : SrcA w F b g s A1 n1 c1 A2 n2 c2 A3 n3 c3 xs cs M cl) {P : Nat} (hG : GoodS g s P xs cs M) (more most k : Nat) (hmore : more ≤ 140737488351232) (hk : ((openN (P - 4) cs xs).length + more + (P - 4) - 1) / (P - 4) = k) (r : Int) (hr : (if 262144 < xs.length + more ∨ most < M.length + k then 7 else 0) = r) :
    Calls Tryz.prog 58 #[.pointer (some ⟨b, 0, none⟩), .int .i64 (more : Int), .int .u64 (most : Int)] w (AskR w True r) := by
  obtain ⟨o, ho⟩ : ∃ o, (openN (P - 4) cs xs).length = o := ⟨_, rfl⟩
  have hol := hG.openL
  have hfew := hG.few
  have hlen := hG.len
  have en1 := h.n1eq
  have en3 := h.n3eq
  rw [ho] at hk hol
  by_cases ha : 262144 < xs.length + more
  · refine isfull_gen _ more most True true r (by rw [← hr, if_pos (Or.inl ha)]; rfl) w fun _ q0 q1 q2 w2 hq0 hq1 hq2 kw => ?_
    have z0 := hq0.cell
    have z1 := hq1.cell
    have z2 := hq2.cell
    have y2 := (h.keep kw).x2
    have d1 : decide ((262144 : Int) - (n1 : Int) < (more : Int)) = true := decide_eq_true (by omega)
    have d2 : IntKind.i64.wrap ((262144 : Int) - (n1 : Int)) = (262144 : Int) - (n1 : Int) := IntWalk.i64_in _ (by omega)
    have d3 : (262144 : Int) - (n1 : Int) < (more : Int) := by omega
    clear h hq0 hq1 hq2 kw hr hG hk ho hol hfew hlen en3
    go_enter Tryz.func100, Tryz.ntmps100
    go_wp2_with fail
    go_quiet (fail)
    go_wp2_with fail
    go_ret
    exact ⟨rfl, _, rfl⟩
  · have hkl : k ≤ 1000000 := by
      rw [← hk]
      have hl := hG.room
      refine Nat.le_trans (Nat.div_le_of_le_mul (n := o + more + 1) ?_) (by omega)
      have := Nat.mul_le_mul_right (o + more) hl
      rw [Nat.mul_add, Nat.mul_one]
      omega
    obtain ⟨bb, hb⟩ : ∃ bb, decide (most < n3 + k) = bb := ⟨_, rfl⟩
    refine isfull_gen _ more most True bb r (by rw [← hr, ← hb, en3]; by_cases hc : most < n3 + k <;> simp [ha, hc]) w fun _ q0 q1 q2 w2 hq0 hq1 hq2 kw => ?_
    have z0 := hq0.cell
    have z1 := hq1.cell
    have z2 := hq2.cell
    have h2 := h.keep kw
    have y2 := h2.x2
    have y4 := h2.x4
    have HO : Hid (∀ w', Keep w2 w' → Calls Tryz.prog 60 #[.pointer (some ⟨b, 0, none⟩)] w' fun e w'' => e = .returned (.int .i64 (o : Int)) ∧ ∃ m, w'' = w'.drewN m) := fun w' kk => open_any (h2.keep kk) _ o rfl hol (by omega) (by omega)
    have HP : Hid (∀ w', Keep w2 w' → Calls Tryz.prog 101 #[.pointer (some ⟨b, 0, none⟩), .int .i64 ((o + more : Nat) : Int)] w' fun e w'' => e = .returned (.int .i64 (k : Int)) ∧ ∃ m, w'' = w'.drewN m) := fun w' kk => pieces_any (h2.keep kk) hG.size (o + more) k (by omega) hk
    have d1 : decide ((262144 : Int) - (n1 : Int) < (more : Int)) = false := decide_eq_false (by omega)
    have d2 : IntKind.i64.wrap ((262144 : Int) - (n1 : Int)) = (262144 : Int) - (n1 : Int) := IntWalk.i64_in _ (by omega)
    have d3 : (o : Int) + (more : Int) = ((o + more : Nat) : Int) := by omega
    have d4 : IntKind.i64.wrap ((o : Int) + (more : Int)) = ((o + more : Nat) : Int) := by rw [d3]; exact IntWalk.i64_in _ (by omega)
    have d5 : IntKind.i64.wrap ((n3 : Int) + (k : Int)) = ((n3 + k : Nat) : Int) := by rw [show (n3 : Int) + (k : Int) = ((n3 + k : Nat) : Int) by omega]; exact IntWalk.i64_in _ (by omega)
    have d6 : IntKind.u64.wrap ((n3 + k : Nat) : Int) = ((n3 + k : Nat) : Int) := IntWalk.u64_in _ (by omega)
    clear d3
    obtain ⟨om, hom⟩ : ∃ om, o + more = om := ⟨_, rfl⟩
    obtain ⟨nk, hnk⟩ : ∃ nk, n3 + k = nk := ⟨_, rfl⟩
    rw [hom] at HP d4
    rw [hnk] at d5 d6 hb
    by_cases hc : most < nk
    · obtain rfl : true = bb := by rw [← hb]; exact (decide_eq_true hc).symm
      have e1 : (most : Int) < (nk : Int) := by omega
      have e2 : decide ((most : Int) < (nk : Int)) = true := decide_eq_true e1
      clear h h2 hq0 hq1 hq2 kw hr hG hk ho hol hfew hlen en3 en1 hb hom hnk hkl hmore ha hc
      go_enter Tryz.func100, Tryz.ntmps100
      go_wp2_with fail
      go_quiet (first | (go_at_call 60; exact quiet_drewN (HO.out _ ((Keep.refl _).drewN _))) | (go_at_call 101; exact quiet_drewN (HP.out _ ((Keep.refl _).drewN _))))
      go_wp2_with fail
      go_ret
      exact ⟨rfl, _, rfl⟩
    · obtain rfl : false = bb := by rw [← hb]; exact (decide_eq_false hc).symm
      have e1 : ¬ (most : Int) < (nk : Int) := by omega
      have e2 : decide ((most : Int) < (nk : Int)) = false := decide_eq_false e1
      have E3 : Hid (decide (most < nk) = false) := decide_eq_false hc
      clear h h2 hq0 hq1 hq2 kw hr hG hk ho hol hfew hlen en3 en1 hb hom hnk hkl hmore ha hc
      go_enter Tryz.func100, Tryz.ntmps100
      go_wp2_with fail
      go_quiet (first | (go_at_call 60; exact quiet_drewN (HO.out _ ((Keep.refl _).drewN _))) | (go_at_call 101; exact quiet_drewN (HP.out _ ((Keep.refl _).drewN _))))
      go_wp2_with fail
      go_ret
      exact ⟨by show Ending.returned (.bool (decide (most < nk))) = _; rw [E3.out], _, rfl⟩
end
def subE (P : Nat) (cl : Bool) (xs cs ys : List Nat) (most : Nat) : Int := if cl then 27 else if 262144 < xs.length + ys.length ∨ most < wouldN (P - 4) cs (xs ++ ys) then 7 else 0
def subX (P : Nat) (cl : Bool) (xs cs ys : List Nat) (most : Nat) : List Nat := if subE P cl xs cs ys most = 0 then xs ++ ys else xs
/-- How many ends stand at b. -/
def endsAt (w : World) (b : Nat) : Nat := match w.cell? ⟨b, 4, none⟩ with
  | some (.slice _ n _) => n
  | _ => 0
theorem GoodS.more {g s P : Nat} {xs cs : List Nat} {M : List (List Nat)} (h : GoodS g s P xs cs M) (ys : List Nat) (hl : xs.length + ys.length ≤ 262144) : GoodS g s P (xs ++ ys) cs (gensN (P - 4) cs (xs ++ ys)) :=
  ⟨h.size, fun c hc => by have := h.le c hc; rw [List.length_append]; omega, h.up, rfl, by rw [List.length_append]; exact hl⟩
section
variable {w w' : World} {F G : Nat → Prop} {b g s : Nat} {xs cs ys : List Nat} {M : List (List Nat)} {cl : Bool}
set_option maxRecDepth 100000 in
set_option maxHeartbeats 2000000 in
theorem submit_bad {P : Nat} (h : SrcR w F b g s xs cs M cl) (hG : GoodS g s P xs cs M) (n5 c5 : Nat) (A5 : Option Addr) (most : Nat) (hy : ys.length = n5) (h5 : n5 ≤ 140737488351232) (he : subE P cl xs cs ys most ≠ 0) :
    Calls Tryz.prog 25 #[.pointer (some ⟨b, 0, none⟩), .slice A5 n5 c5, .int .u64 (most : Int)] w fun e w' => e = .returned (.int .i64 (subE P cl xs cs ys most)) ∧ Keep w w' := by
  obtain ⟨k, hk⟩ : ∃ k, ((openN (P - 4) cs xs).length + n5 + (P - 4) - 1) / (P - 4) = k := ⟨_, rfl⟩
  have hwd := would_div (ys := ys) hG.room hG.le
  rw [hy, hk, ← hG.gens] at hwd
  obtain ⟨rc, hrc⟩ : ∃ rc : Int, (if cl then 27 else 0) = rc := ⟨_, rfl⟩
  obtain ⟨rf, hrf⟩ : ∃ rf : Int, (if 262144 < xs.length + n5 ∨ most < M.length + k then 7 else 0) = rf := ⟨_, rfl⟩
  obtain ⟨re, hre⟩ : ∃ re : Int, subE P cl xs cs ys most = re := ⟨_, rfl⟩
  have h3 : or3 0 rc rf = re := by
    rw [← hre, ← hrc, ← hrf, subE, hwd, hy, or3, if_pos rfl]
    cases cl <;> simp
  rw [hre] at he ⊢
  have HRC := Lib.hid hrc
  have HRF := Lib.hid hrf
  have HR3 := Lib.hid h3
  have HKK := Lib.hid hk
  have HN5 := Lib.hid h5
  clear hwd hrc hrf hre h3 hk hy
  obtain ⟨A1, n1, c1, A2, n2, c2, A3, n3, c3, h⟩ := h
  have hg := hG.size.g0
  have H0 := Lib.hid h
  have HG := Lib.hid hG
  clear h5
  clear h hG
  go_enter Tryz.func25, Tryz.ntmps25
  go_wp2_with fail
  refine (isnone_any H0.out hg).mono ?_
  rintro e w1 ⟨v1, rfl, k1, a1⟩
  obtain ⟨i1, j1, rfl⟩ := a1.form
  have K1 := Lib.hid k1
  have V1 := Lib.hid a1
  clear k1 a1
  go_wp2_with fail
  refine (isclosed_any (H0.out.keep K1.out) rc HRC.out).mono ?_
  rintro e w2 ⟨v2, rfl, k2, a2⟩
  obtain ⟨i2, j2, rfl⟩ := a2.form
  have K2 := Lib.hid k2
  have V2 := Lib.hid a2
  clear k2 a2
  go_wp2_with fail
  refine (isfull_any (H0.out.keep (K1.out.trans K2.out)) HG.out n5 most k HN5.out HKK.out rf HRF.out).mono ?_
  rintro e w3 ⟨v3, rfl, k3, a3⟩
  obtain ⟨i3, j3, rfl⟩ := a3.form
  have K3 := Lib.hid k3
  have V3 := Lib.hid a3
  clear k3 a3
  go_wp2_with fail
  refine (first3 _ _ _ 0 rc rf w3 (V1.out.keep (K2.out.trans K3.out)) ((V2.out.keep K3.out).weak fun _ => trivial) (V3.out.weak fun _ => trivial) _ _).mono ?_
  rw [HR3.out]
  rintro e w4 ⟨rfl, m, hw4⟩
  have K4 : Hid (Keep w w4) := by show Keep w w4; rw [hw4]; exact (((K1.out.trans K2.out).trans K3.out).alloc _ _).drewN m
  clear hw4 K1 V1 K2 V2 K3 V3
  go_wp2_with fail
  go_ret
  exact ⟨rfl, K4.out⟩
set_option maxRecDepth 100000 in
set_option maxHeartbeats 4000000 in
theorem submit_good {P : Nat} (h : SrcR w F b g s xs cs M false) (hG : GoodS g s P xs cs M) (B n5 c5 : Nat) (A5 : Option Addr) (most : Nat) (hb : Bytes w B A5 n5 ys) (hB : B ≤ w.heap.size) (hl : xs.length + n5 ≤ 262144) (hm : wouldN (P - 4) cs (xs ++ ys) ≤ most) :
    Calls Tryz.prog 25 #[.pointer (some ⟨b, 0, none⟩), .slice A5 n5 c5, .int .u64 (most : Int)] w fun e w' => e = .returned (.int .i64 0) ∧ Wrote F w b g s (xs ++ ys) cs (gensN (P - 4) cs (xs ++ ys)) false w' := by
  obtain ⟨k, hk⟩ : ∃ k, ((openN (P - 4) cs xs).length + n5 + (P - 4) - 1) / (P - 4) = k := ⟨_, rfl⟩
  have hwd := would_div (ys := ys) hG.room hG.le
  have hy := hb.length
  rw [hy, hk, ← hG.gens] at hwd
  obtain ⟨rc, hrc⟩ : ∃ rc : Int, (if false then 27 else 0) = rc := ⟨_, rfl⟩
  obtain ⟨rf, hrf⟩ : ∃ rf : Int, (if 262144 < xs.length + n5 ∨ most < M.length + k then 7 else 0) = rf := ⟨_, rfl⟩
  have h3 : or3 0 rc rf = 0 := by
    have hn : ¬ (262144 < xs.length + n5 ∨ most < M.length + k) := by omega
    rw [← hrc, ← hrf]
    simp [or3, hn]
  have HRC := Lib.hid hrc
  have HRF := Lib.hid hrf
  have HR3 := Lib.hid h3
  have HKK := Lib.hid hk
  have HN5 : Hid (n5 ≤ 140737488351232) := by show n5 ≤ 140737488351232; omega
  have HBY := Lib.hid hb
  have HB := Lib.hid hB
  have HL := Lib.hid hl
  obtain ⟨R, hR⟩ : ∃ R, P - 4 = R := ⟨_, rfl⟩
  have HR := Lib.hid hR
  have HR1 : Hid (1 ≤ R) := by show 1 ≤ R; rw [← hR]; exact hG.room
  have HRU : Hid (R ≤ 16711425) := by show R ≤ 16711425; have := hG.size.hi; omega
  clear hwd hrc hrf h3 hk hy hb hB hl hm hR
  obtain ⟨A1, n1, c1, A2, n2, c2, A3, n3, c3, h⟩ := h
  have hg := hG.size.g0
  have H0 := Lib.hid h
  have HG := Lib.hid hG
  clear h hG
  go_enter Tryz.func25, Tryz.ntmps25
  go_wp2_with fail
  refine (isnone_any H0.out hg).mono ?_
  rintro e w1 ⟨v1, rfl, k1, a1⟩
  obtain ⟨i1, j1, rfl⟩ := a1.form
  have K1 := Lib.hid k1
  have V1 := Lib.hid a1
  clear k1 a1
  go_wp2_with fail
  refine (isclosed_any (H0.out.keep K1.out) rc HRC.out).mono ?_
  rintro e w2 ⟨v2, rfl, k2, a2⟩
  obtain ⟨i2, j2, rfl⟩ := a2.form
  have K2 := Lib.hid k2
  have V2 := Lib.hid a2
  clear k2 a2
  go_wp2_with fail
  refine (isfull_any (H0.out.keep (K1.out.trans K2.out)) HG.out n5 most k HN5.out HKK.out rf HRF.out).mono ?_
  rintro e w3 ⟨v3, rfl, k3, a3⟩
  obtain ⟨i3, j3, rfl⟩ := a3.form
  have K3 := Lib.hid k3
  have V3 := Lib.hid a3
  clear k3 a3
  go_wp2_with fail
  refine (first3 _ _ _ 0 rc rf w3 (V1.out.keep (K2.out.trans K3.out)) ((V2.out.keep K3.out).weak fun _ => trivial) (V3.out.weak fun _ => trivial) _ _).mono ?_
  rw [HR3.out]
  rintro e w4 ⟨rfl, m, hw4⟩
  have K4 : Hid (Keep w w4) := by show Keep w w4; rw [hw4]; exact (((K1.out.trans K2.out).trans K3.out).alloc _ _).drewN m
  clear hw4 K1 V1 K2 V2 K3 V3
  have y2 := (H0.out.keep K4.out).x2
  have z2 := (H0.out.keep K4.out).free 2
  go_wp2_with (at_builtin; refine wpList_append_bytes rfl _ _ 43 rfl Tryz.underlying43 info5 rfl (H0.out.keep K4.out).s1 rfl (HBY.out.keep HB.out K4.out) ?cc (by omega) ?_)
  case cc =>
    have := H0.out.n1eq; have := HL.out; omega
  intro A6 c6 w6 h6 g6 r6
  have t6 : Turned (fun i => (Value.slice A1 n1 c1).ownBlock = some i) w4 w6 := Turned.of_grown (F := fun i => (Value.slice A1 n1 c1).ownBlock = some i) g6 fun i e => e
  obtain ⟨p1, p2⟩ := (H0.out.keep K4.out).put2 t6 h6 (r6.imp id fun e => ⟨_, e, Nat.le_refl _⟩)
  obtain ⟨z4, fr⟩ := (H0.out.keep K4.out).stands t6 fun e => (H0.out.f1 b e).2 rfl
  have z5 := z4 2 _ y2
  have f5 := fr 2
  have en1 := H0.out.n1eq
  have PW : Hid (Wrote F w b g s (xs ++ ys) cs M false (w6.setCell ⟨b, 2, none⟩ (.slice A6 (n1 + n5) c6))) :=
    Wrote.trans (Turned.of_keep K4.out) (fun i e => Or.inl e) ⟨_, ⟨_, _, _, _, _, _, _, _, _, p1⟩, p2, fun i hi => hi.new⟩
  obtain ⟨w7, hw7⟩ : ∃ w7, w6.setCell ⟨b, 2, none⟩ (.slice A6 (n1 + n5) c6) = w7 := ⟨_, rfl⟩
  rw [hw7] at PW
  clear h6 g6 r6 t6 p1 p2 z4 fr y2 z2 en1 H0 K4
  go_wp2_with fail
  obtain ⟨F7, s7, t7, f7⟩ := PW.out
  have S7 := Lib.hid s7
  have T7 := Lib.hid t7
  have G7 := Lib.hid f7
  clear s7 t7 f7
  obtain ⟨B1, m1, d1, B2, m2, d2, B3, m3, d3, a7⟩ := S7.out
  refine (room_any a7 HG.out.size).mono ?_
  rw [HR.out]
  rintro e w8 ⟨rfl, m8, hw8⟩
  have K8 : Hid (Keep w7 w8) := by show Keep w7 w8; rw [hw8]; exact (Keep.refl _).drewN m8
  have S8 := Lib.hid (S7.out.keep K8.out)
  have T8 : Hid (Turned F w w8) := T7.out.trans (Turned.of_keep (F := fun _ => False) K8.out) fun i e => e.elim
  clear hw8 a7 S7 T7 K8 hw7 z5 f5 PW
  go_wp2_with fail
  obtain ⟨f, hf⟩ : ∃ f, fromN R cs xs = f := ⟨_, rfl⟩
  have HF := Lib.hid hf
  have HLL : Hid ((xs ++ ys).length = xs.length + n5) := by show _ = _; rw [List.length_append, HBY.out.length]
  have HFL : Hid (f ≤ xs.length) := by show _ ≤ _; rw [← hf]; exact from_le HR1.out
  clear hf
  go_loopw [34] (fun rv wr => ∃ (j : Nat) (Fr : Nat → Prop), f + j * R ≤ (xs ++ ys).length ∧ SrcR wr Fr b g s (xs ++ ys) cs (M ++ fullN R (xs ++ ys) f j) false ∧ Turned F w wr ∧ ∀ i, Fr i → F i ∨ w.heap.size ≤ i) (fun _ wr => 300000 - endsAt wr b)
  case atStart => exact ⟨0, F7, by have := HLL.out; have := HFL.out; omega, by rw [show fullN R (xs ++ ys) f 0 = [] from rfl, List.append_nil]; exact S8.out, T8.out, G7.out⟩
  case round =>
    obtain ⟨j, Fr, hj, sr, tr, fr⟩ := hrel
    have SR := Lib.hid sr
    have TR := Lib.hid tr
    have FR := Lib.hid fr
    have hMg : M = gensN R cs xs := by have := HG.out.gens; rwa [HR.out] at this
    have hfl : (M ++ fullN R (xs ++ ys) f j).flatten.length = f + j * R := by rw [hMg, ← HF.out]; exact sub_last HR1.out ys j (by rw [HF.out]; exact hj)
    have hjl : j ≤ j * R := by
      have := Nat.mul_le_mul_left j HR1.out
      rwa [Nat.mul_one] at this
    have hML : M.length ≤ f := by
      have := flat_each (M := M) (by rw [HG.out.gens]; exact fun r hr => (gens_each HG.out.room r hr).1)
      have h2 := HG.out.flat
      rw [HR.out, HF.out] at h2
      omega
    have hcount : (M ++ fullN R (xs ++ ys) f j).length = M.length + j := by rw [List.length_append, fullN_len]
    have hLL := HLL.out
    have hL := HL.out
    obtain ⟨o, ho⟩ : ∃ o, (xs ++ ys).length = f + j * R + o := ⟨(xs ++ ys).length - (f + j * R), by omega⟩
    have ho2 : o ≤ 262144 := by omega
    have HJ : Hid (M.length + j ≤ 262144) := by show _ ≤ _; omega
    have HOO := Lib.hid ho
    have HFF := Lib.hid hfl
    have HCN := Lib.hid hcount
    have HMG := Lib.hid hMg
    have hms : endsAt wr b = M.length + j := by
      obtain ⟨B1, m1, d1, B2, m2, d2, B3, m3, d3, a⟩ := sr
      have e3 := a.n3eq
      have e4 := a.x4
      unfold endsAt
      rw [e4]; show m3 = _
      omega
    have HMS := Lib.hid hms
    clear sr tr fr hj hMg hfl hjl hML hcount hLL hL ho hms S8 T8
    go_wp2_with fail
    obtain ⟨B1, m1, d1, B2, m2, d2, B3, m3, d3, a⟩ := SR.out
    refine (open_any a (f + j * R) o HFF.out HOO.out (by have := HCN.out; have := HJ.out; omega) (by have := HLL.out; have := HL.out; omega)).mono ?_
    rintro e w9 ⟨rfl, m9, hw9⟩
    have K9 : Hid (Keep wr w9) := by show Keep wr w9; rw [hw9]; exact (Keep.refl _).drewN m9
    have S9 := Lib.hid (SR.out.keep K9.out)
    have T9 : Hid (Turned F w w9) := TR.out.trans (Turned.of_keep (F := fun _ => False) K9.out) fun i e => e.elim
    clear hw9 a SR TR K9
    by_cases hlt : R ≤ o
    · have d1 : (R : Int) ≤ (o : Int) := by omega
      go_wp2_with fail
      refine (endS_any S9.out R (f + j * R) HFF.out (by have := HCN.out; have := HJ.out; omega) (by have := HLL.out; have := HL.out; have := HOO.out; omega) (M ++ fullN R (xs ++ ys) f (j + 1)) (by
        have := sub_ends (cs := cs) HR1.out ys j (by rw [HF.out]; have := HOO.out; omega)
        rw [HF.out, ← HMG.out] at this; exact this)).mono ?_
      rintro e w10 ⟨rfl, p10⟩
      have P10 := Lib.hid (Wrote.trans T9.out FR.out p10)
      clear p10
      go_wp2_with fail
      go_roundw
      case rel =>
        obtain ⟨F', q1, q2, q3⟩ := P10.out
        exact ⟨j + 1, F', by rw [Nat.add_mul, Nat.one_mul]; have := HOO.out; omega, q1, q2, q3⟩
      case measure =>
        obtain ⟨F', q1, q2, q3⟩ := P10.out
        obtain ⟨B1, m1, d1, B2, m2, d2, B3, m3, d3, a⟩ := q1
        have e3 := a.n3eq
        have e4 := a.x4
        have e5 : endsAt w10 b = M.length + (j + 1) := by
          unfold endsAt
          rw [e4]; show m3 = _
          rw [← e3, List.length_append, fullN_len]
        have hm1 := HMS.out
        have hj1 := HJ.out
        rw [e5, hm1]; omega
    · have d1 : ¬ (R : Int) ≤ (o : Int) := by omega
      have PE : Hid (Wrote F w b g s (xs ++ ys) cs (gensN R cs (xs ++ ys)) false w9) := by
        have e1 := (sub_gens (cs := cs) (xs := xs) HR1.out (by have := HG.out.le; exact this) ys j (by rw [HF.out]; have := HOO.out; omega) (by rw [HF.out]; have := HOO.out; omega)).1
        rw [HF.out, ← HMG.out] at e1
        refine ⟨Fr, ?_, T9.out, FR.out⟩
        rw [e1]; exact S9.out
      clear S9 T9
      go_wp2_with fail
      go_ret
      exact ⟨rfl, by rw [HR.out]; exact PE.out⟩
theorem submit_any {P : Nat} (h : SrcR w F b g s xs cs M cl) (hG : GoodS g s P xs cs M) (B n5 c5 : Nat) (A5 : Option Addr) (most : Nat) (hb : Bytes w B A5 n5 ys) (hB : B ≤ w.heap.size) (h5 : n5 ≤ 140737488351232) :
    Calls Tryz.prog 25 #[.pointer (some ⟨b, 0, none⟩), .slice A5 n5 c5, .int .u64 (most : Int)] w fun e w' => e = .returned (.int .i64 (subE P cl xs cs ys most)) ∧ Wrote F w b g s (subX P cl xs cs ys most) cs (gensN (P - 4) cs (subX P cl xs cs ys most)) cl w' := by
  by_cases he : subE P cl xs cs ys most = 0
  · rw [subX, if_pos he, he]
    have hcl : cl = false := by
      cases cl with
      | false => rfl
      | true => exact absurd he (by simp [subE])
    subst hcl
    have h7 : ¬ (262144 < xs.length + ys.length ∨ most < wouldN (P - 4) cs (xs ++ ys)) := fun e => by
      rw [subE, if_neg (by simp), if_pos e] at he; cases he
    exact submit_good h hG B n5 c5 A5 most hb hB (by have := hb.length; omega) (by omega)
  · rw [subX, if_neg he, ← hG.gens]
    exact (submit_bad h hG n5 c5 A5 most hb.length h5 he).mono fun e w' hh => ⟨hh.1, h.wrote hh.2⟩
end
end Go.Proofs.YtgelalbmhllccaaGreat
/- The landed source: the symbols of a generation. -/
namespace Go.Proofs.YtgelalbmhllccaaGreat
open Go.RowKit
set_option linter.unusedVariables false
set_option linter.unusedSimpArgs false
section
variable {w w' : World} {F G : Nat → Prop} {b g s : Nat} {A1 : Option Addr} {n1 c1 : Nat} {A2 : Option Addr} {n2 c2 : Nat} {A3 : Option Addr} {n3 c3 : Nat} {xs cs : List Nat} {M : List (List Nat)} {cl : Bool}
/-- Rows made anew, whose first bytes may be turned. -/
def SymAt (w w' : World) (A : Option Addr) (n c : Nat) (L : List (List Nat)) : Prop :=
  (∃ rs, RowsIn w' (fun b => w.heap.size ≤ b ∧ b < w'.heap.size) A n rs ∧ n ≤ c ∧ rowsXs rs = L) ∧ TurnAt w' w.heap.size A n ∧ n ≤ 255 ∧ Keep w w'
def NewSym (w : World) (L : List (List Nat)) (e : Ending) (w' : World) : Prop := ∃ A n c, e = .returned (.slice A n c) ∧ SymAt w w' A n c L
theorem TurnAt.lower {w' : World} {base base' : Nat} {A : Option Addr} {n : Nat} (h : TurnAt w' base A n) (hb : base' ≤ base) : TurnAt w' base' A n := by
  rcases h with h | ⟨gr, b, S, c, P, ys, h1, h2, h3, h4, h5, h6, h7, h8, h9⟩
  · exact Or.inl h
  · exact Or.inr ⟨gr, b, S, c, P, ys, h1, by omega, h3, by omega, h5, h6, h7, h8, h9.lower hb⟩
theorem SymAt.before {w0 w w' : World} {A : Option Addr} {n c : Nat} {L : List (List Nat)} (h : SymAt w w' A n c L) (k : Keep w0 w) : SymAt w0 w' A n c L := by
  obtain ⟨⟨rs, r1, r2, r3⟩, t, hn, kk⟩ := h
  have hs := k.size
  exact ⟨⟨rs, r1.mono fun b hb => ⟨by omega, hb.2⟩, r2, r3⟩, t.lower hs, hn, k.trans kk⟩
theorem SymAt.count {A : Option Addr} {n c : Nat} {L : List (List Nat)} (h : SymAt w w' A n c L) : L.length = n := by
  obtain ⟨⟨rs, r1, r2, r3⟩, _⟩ := h
  rw [← r3, rowsXs, List.length_map]; exact r1.1
theorem GoodS.piece {P : Nat} (h : GoodS g s P xs cs M) {i : Nat} {r : List Nat} (hr : M[i]? = some r) : r = pieceN xs (startN M i) (startN M i + r.length) ∧ startN M i + r.length ≤ xs.length ∧ 1 ≤ r.length ∧ r.length ≤ P - 4 := by
  have h1 := h.room
  have hf := gens_take (cs := cs) (xs := xs) h1
  have hl := h.from_
  rw [← h.gens] at hf
  obtain ⟨e1, e2⟩ := startN_piece hf hl hr
  have h2 := gens_each h1 (cuts := cs) (xs := xs) r (by rw [← h.gens]; exact List.mem_of_getElem? hr)
  exact ⟨e1, by omega, h2⟩
set_option maxRecDepth 100000 in
set_option maxHeartbeats 4000000 in
theorem symbols_any {P : Nat} (h : SrcR w F b g s xs cs M cl) (hG : GoodS g s P xs cs M) (gen : Nat) (r : List Nat) (hr : M[gen]? = some r) :
    Calls Tryz.prog 105 #[.pointer (some ⟨b, 0, none⟩), .int .u64 (gen : Int)] w (NewSym w (layN g s r)) := by
  obtain ⟨A1, n1, c1, A2, n2, c2, A3, n3, c3, h⟩ := h
  have e1 := h.n1eq
  have e3 := h.n3eq
  have hlt : gen < M.length := by
    rcases Nat.lt_or_ge gen M.length with h1 | h1
    · exact h1
    · rw [List.getElem?_eq_none h1] at hr; cases hr
  have hfew := hG.few
  have hlen := hG.len
  obtain ⟨pc, ple, p1, p2⟩ := hG.piece hr
  obtain ⟨st, hst⟩ : ∃ st, startN M gen = st := ⟨_, rfl⟩
  obtain ⟨en, hen⟩ : ∃ en, startN M (gen + 1) = en := ⟨_, rfl⟩
  have hse : en = st + r.length := by rw [← hen, ← hst, startN_succ hr]
  rw [hst] at pc ple
  obtain ⟨bb, off, rfl, _, hc⟩ := h.s3.ints.2 (by omega)
  have hc := hc gen (en : Int) (by rw [List.getElem?_map, endsN_get hlt, hen]; rfl)
  have HX0 : Hid (∀ wq, Keep w wq → wq.cell? ⟨b, 0, none⟩ = some (.int .i64 (g : Int))) := fun wq k => (h.keep k).x0
  have HX1 : Hid (∀ wq, Keep w wq → wq.cell? ⟨b, 1, none⟩ = some (.int .i64 (s : Int))) := fun wq k => (h.keep k).x1
  have HX2 : Hid (∀ wq, Keep w wq → wq.cell? ⟨b, 2, none⟩ = some (.slice A1 n1 c1)) := fun wq k => (h.keep k).x2
  have HX4 : Hid (∀ wq, Keep w wq → wq.cell? ⟨b, 4, none⟩ = some (.slice (some ⟨bb, off, none⟩) n3 c3)) := fun wq k => (h.keep k).x4
  have HXE : Hid (∀ wq, Keep w wq → wq.cell? ⟨bb, off + gen, none⟩ = some (.int .i64 (en : Int))) := fun wq k => by
    rw [World.cell?_of_block (k.block bb (World.block_lt_of_cell? w _ hc))]; exact hc
  have HST : Hid (∀ wq, Keep w wq → Calls Tryz.prog 102 #[.pointer (some ⟨b, 0, none⟩), .int .i64 (gen : Int)] wq fun e w' => e = .returned (.int .i64 (st : Int)) ∧ wq = w') := fun wq k => start_any (h.keep k) gen st (by omega) (by omega) hst
  have hcap := own_le' h.s1
  have sl := run_piece st en n1 c1 A1 (by omega) (by omega)
  have HLA : Hid (∀ wq, Keep w wq → Calls Tryz.prog 139 #[.slice (dropA A1 c1 st) (en - st) (c1 - st), .int .i64 (g : Int), .int .i64 (s : Int)] wq (NewLay wq (layN g s r) 0)) := fun wq k => by
    have hp := ((h.keep k).s1.bytes).piece (f := st) (t := en) (by omega) (by omega) hcap
    have := play_any (g : Int) (s : Int) _ _ (c1 - st) _ wq hp
    have hpx : pieceN xs st en = r := by rw [hse]; exact pc.symm
    rw [hpx] at this
    have hE : layE (g : Int) (s : Int) r = 0 := by
      rw [layE, if_neg (not_not_intro hG.size.may), if_neg (by omega), if_neg (by rw [hG.size.int]; have := hG.size.lo; omega)]
    rw [layR, hE, if_pos rfl, Int.toNat_natCast, Int.toNat_natCast] at this
    exact this
  have d1 : IntKind.i64.wrap (gen : Int) = (gen : Int) := IntWalk.i64_in _ (by omega)
  have d2 : (0 : Int) ≤ (gen : Int) := by omega
  have d3 : (gen : Int) < (n3 : Int) := by omega
  obtain ⟨ln, hln⟩ : ∃ ln, en - st = ln := ⟨_, rfl⟩
  rw [hln] at sl HLA
  have d4 : gen ≤ 1000000 := by omega
  clear h hG hr hst hen hse pc ple p1 p2 hc hcap hlt hfew hlen hln e1 e3
  go_enter Tryz.func105, Tryz.ntmps105
  go_wp2_with fail
  refine wp_region_noPanic ?_
  refine wp_region_held_drew (S := fun wz => Keep w wz) (by kernel_rfl) (Keep.drew (Keep.refl w)) (fun hHeld => ?_)
  refine wpAnyH_take (i := 0) (v := ?_) rfl (by kernel_rfl) (by kernel_rfl) (by kernel_rfl) (fun _ _ _ h => h) (Or.inl ⟨by rfl, ?_⟩) hHeld ?_
  rotate_left
  · intro wq hSw
    go_simp
    all_goals with_reducible rfl
  try simp only [Act.put, List.getElem_toArray, List.getElem_cons_succ, List.getElem_cons_zero, List.setIfInBounds_toArray, List.set_cons_zero, List.set_cons_succ]
  refine wpAnyH_take (i := 1) (v := ?_) rfl (by kernel_rfl) (by kernel_rfl) (by kernel_rfl) (fun _ _ _ h => h) (Or.inl ⟨by rfl, ?_⟩) hHeld ?_
  rotate_left
  · intro wq hSw
    go_simp
    all_goals with_reducible rfl
  try simp only [Act.put, List.getElem_toArray, List.getElem_cons_succ, List.getElem_cons_zero, List.setIfInBounds_toArray, List.set_cons_zero, List.set_cons_succ]
  refine wpAnyH_take (i := 2) (v := ?_) rfl (by kernel_rfl) (by kernel_rfl) (by kernel_rfl) (fun _ _ _ h => h) (Or.inl ⟨by rfl, ?_⟩) hHeld ?_
  rotate_left
  · intro wq hSw
    go_simp
    all_goals with_reducible rfl
  try simp only [Act.put, List.getElem_toArray, List.getElem_cons_succ, List.getElem_cons_zero, List.setIfInBounds_toArray, List.set_cons_zero, List.set_cons_succ]
  refine wpAnyH_take (i := 3) (v := ?_) rfl (by kernel_rfl) (by kernel_rfl) (by kernel_rfl) (fun _ _ _ h => h) (Or.inl ⟨by rfl, ?_⟩) hHeld ?_
  rotate_left
  · intro wq hSw
    have q0 := HX2.out wq hSw
    go_simp
    all_goals with_reducible rfl
  try simp only [Act.put, List.getElem_toArray, List.getElem_cons_succ, List.getElem_cons_zero, List.setIfInBounds_toArray, List.set_cons_zero, List.set_cons_succ]
  refine wpAnyH_take (i := 4) (v := ?_) rfl (by kernel_rfl) (by kernel_rfl) (by kernel_rfl) (fun _ _ _ h => h) (Or.inl ⟨by rfl, ?_⟩) hHeld ?_
  rotate_left
  · intro wq hSw
    go_simp
    all_goals with_reducible rfl
  try simp only [Act.put, List.getElem_toArray, List.getElem_cons_succ, List.getElem_cons_zero, List.setIfInBounds_toArray, List.set_cons_zero, List.set_cons_succ]
  refine wpAnyH_take (i := 5) (v := ?_) rfl (by kernel_rfl) (by kernel_rfl) (by kernel_rfl) (fun _ _ _ h => h) (Or.inl ⟨by rfl, ?_⟩) hHeld ?_
  rotate_left
  · intro wq hSw
    go_simp
    all_goals with_reducible rfl
  try simp only [Act.put, List.getElem_toArray, List.getElem_cons_succ, List.getElem_cons_zero, List.setIfInBounds_toArray, List.set_cons_zero, List.set_cons_succ]
  refine wpAnyH_take (i := 6) (v := ?_) rfl (by kernel_rfl) (by kernel_rfl) (by kernel_rfl) (fun _ _ _ h => h) (Or.inl ⟨by rfl, ?_⟩) hHeld ?_
  rotate_left
  · intro wq hSw
    go_simp
    all_goals with_reducible rfl
  try simp only [Act.put, List.getElem_toArray, List.getElem_cons_succ, List.getElem_cons_zero, List.setIfInBounds_toArray, List.set_cons_zero, List.set_cons_succ]
  refine wpAnyH_take (i := 8) (v := ?_) rfl (by kernel_rfl) (by kernel_rfl) (by kernel_rfl) (fun _ _ _ h => h) (Or.inl ⟨by rfl, ?_⟩) hHeld ?_
  rotate_left
  · intro wq hSw
    go_simp
    all_goals with_reducible rfl
  try simp only [Act.put, List.getElem_toArray, List.getElem_cons_succ, List.getElem_cons_zero, List.setIfInBounds_toArray, List.set_cons_zero, List.set_cons_succ]
  refine wpAnyH_take (i := 9) (v := ?_) rfl (by kernel_rfl) (by kernel_rfl) (by kernel_rfl) (fun _ _ _ h => h) (Or.inl ⟨by rfl, ?_⟩) hHeld ?_
  rotate_left
  · intro wq hSw
    go_simp
    all_goals with_reducible rfl
  try simp only [Act.put, List.getElem_toArray, List.getElem_cons_succ, List.getElem_cons_zero, List.setIfInBounds_toArray, List.set_cons_zero, List.set_cons_succ]
  refine wpAnyH_take (i := 10) (v := ?_) rfl (by kernel_rfl) (by kernel_rfl) (by kernel_rfl) (fun _ _ _ h => h) (Or.inl ⟨by rfl, ?_⟩) hHeld ?_
  rotate_left
  · intro wq hSw
    go_simp
    all_goals with_reducible rfl
  try simp only [Act.put, List.getElem_toArray, List.getElem_cons_succ, List.getElem_cons_zero, List.setIfInBounds_toArray, List.set_cons_zero, List.set_cons_succ]
  refine wpAnyH_take (i := 11) (v := ?_) rfl (by kernel_rfl) (by kernel_rfl) (by kernel_rfl) (fun _ _ _ h => h) (Or.inl ⟨by rfl, ?_⟩) hHeld ?_
  rotate_left
  · intro wq hSw
    have q0 := HX4.out wq hSw
    go_simp
    all_goals with_reducible rfl
  try simp only [Act.put, List.getElem_toArray, List.getElem_cons_succ, List.getElem_cons_zero, List.setIfInBounds_toArray, List.set_cons_zero, List.set_cons_succ]
  refine wpAnyH_take (i := 12) (v := ?_) rfl (by kernel_rfl) (by kernel_rfl) (by kernel_rfl) (fun _ _ _ h => h) (Or.inl ⟨by rfl, ?_⟩) hHeld ?_
  rotate_left
  · intro wq hSw
    go_simp
    all_goals with_reducible rfl
  try simp only [Act.put, List.getElem_toArray, List.getElem_cons_succ, List.getElem_cons_zero, List.setIfInBounds_toArray, List.set_cons_zero, List.set_cons_succ]
  refine wpAnyH_take (i := 13) (v := ?_) rfl (by kernel_rfl) (by kernel_rfl) (by kernel_rfl) (fun _ _ _ h => h) (Or.inl ⟨by rfl, ?_⟩) hHeld ?_
  rotate_left
  · intro wq hSw
    go_simp
    all_goals with_reducible rfl
  try simp only [Act.put, List.getElem_toArray, List.getElem_cons_succ, List.getElem_cons_zero, List.setIfInBounds_toArray, List.set_cons_zero, List.set_cons_succ]
  refine wpAnyH_take (i := 14) (v := ?_) rfl (by kernel_rfl) (by kernel_rfl) (by kernel_rfl) (fun _ _ _ h => h) (Or.inl ⟨by rfl, ?_⟩) hHeld ?_
  rotate_left
  · intro wq hSw
    have q0 := HXE.out wq hSw
    go_simp
    all_goals with_reducible rfl
  try simp only [Act.put, List.getElem_toArray, List.getElem_cons_succ, List.getElem_cons_zero, List.setIfInBounds_toArray, List.set_cons_zero, List.set_cons_succ]
  refine wpAnyH_take (i := 16) (v := ?_) rfl (by kernel_rfl) (by kernel_rfl) (by kernel_rfl) (fun _ _ _ h => h) (Or.inl ⟨by rfl, ?_⟩) hHeld ?_
  rotate_left
  · intro wq hSw
    go_simp
    all_goals with_reducible rfl
  try simp only [Act.put, List.getElem_toArray, List.getElem_cons_succ, List.getElem_cons_zero, List.setIfInBounds_toArray, List.set_cons_zero, List.set_cons_succ]
  refine wpAnyH_take (i := 17) (v := ?_) rfl (by kernel_rfl) (by kernel_rfl) (by kernel_rfl) (fun _ _ _ h => h) (Or.inl ⟨by rfl, ?_⟩) hHeld ?_
  rotate_left
  · intro wq hSw
    go_simp
    all_goals with_reducible rfl
  try simp only [Act.put, List.getElem_toArray, List.getElem_cons_succ, List.getElem_cons_zero, List.setIfInBounds_toArray, List.set_cons_zero, List.set_cons_succ]
  refine wpAnyH_take (i := 18) (v := ?_) rfl (by kernel_rfl) (by kernel_rfl) (by kernel_rfl) (fun _ _ _ h => h) (Or.inl ⟨by rfl, ?_⟩) hHeld ?_
  rotate_left
  · intro wq hSw
    go_simp
    all_goals with_reducible rfl
  try simp only [Act.put, List.getElem_toArray, List.getElem_cons_succ, List.getElem_cons_zero, List.setIfInBounds_toArray, List.set_cons_zero, List.set_cons_succ]
  refine wpAnyH_take (i := 19) (v := ?_) rfl (by kernel_rfl) (by kernel_rfl) (by kernel_rfl) (fun _ _ _ h => h) (Or.inl ⟨by rfl, ?_⟩) hHeld ?_
  rotate_left
  · intro wq hSw
    have q0 := HX0.out wq hSw
    go_simp
    all_goals with_reducible rfl
  try simp only [Act.put, List.getElem_toArray, List.getElem_cons_succ, List.getElem_cons_zero, List.setIfInBounds_toArray, List.set_cons_zero, List.set_cons_succ]
  refine wpAnyH_take (i := 20) (v := ?_) rfl (by kernel_rfl) (by kernel_rfl) (by kernel_rfl) (fun _ _ _ h => h) (Or.inl ⟨by rfl, ?_⟩) hHeld ?_
  rotate_left
  · intro wq hSw
    go_simp
    all_goals with_reducible rfl
  try simp only [Act.put, List.getElem_toArray, List.getElem_cons_succ, List.getElem_cons_zero, List.setIfInBounds_toArray, List.set_cons_zero, List.set_cons_succ]
  refine wpAnyH_take (i := 21) (v := ?_) rfl (by kernel_rfl) (by kernel_rfl) (by kernel_rfl) (fun _ _ _ h => h) (Or.inl ⟨by rfl, ?_⟩) hHeld ?_
  rotate_left
  · intro wq hSw
    go_simp
    all_goals with_reducible rfl
  try simp only [Act.put, List.getElem_toArray, List.getElem_cons_succ, List.getElem_cons_zero, List.setIfInBounds_toArray, List.set_cons_zero, List.set_cons_succ]
  refine wpAnyH_take (i := 22) (v := ?_) rfl (by kernel_rfl) (by kernel_rfl) (by kernel_rfl) (fun _ _ _ h => h) (Or.inl ⟨by rfl, ?_⟩) hHeld ?_
  rotate_left
  · intro wq hSw
    go_simp
    all_goals with_reducible rfl
  try simp only [Act.put, List.getElem_toArray, List.getElem_cons_succ, List.getElem_cons_zero, List.setIfInBounds_toArray, List.set_cons_zero, List.set_cons_succ]
  refine wpAnyH_take (i := 23) (v := ?_) rfl (by kernel_rfl) (by kernel_rfl) (by kernel_rfl) (fun _ _ _ h => h) (Or.inl ⟨by rfl, ?_⟩) hHeld ?_
  rotate_left
  · intro wq hSw
    have q0 := HX1.out wq hSw
    go_simp
    all_goals with_reducible rfl
  try simp only [Act.put, List.getElem_toArray, List.getElem_cons_succ, List.getElem_cons_zero, List.setIfInBounds_toArray, List.set_cons_zero, List.set_cons_succ]
  refine wpAnyH_ready (rs := [7]) (by kernel_rfl) (by simp) ?_
  refine AllReadyH.cons rfl (fun K hK => ?_) AllReadyH.nil
  go_simp
  refine (HST.out _ hHeld).mono ?_
  rintro e w2 ⟨rfl, rfl⟩
  refine hK.out _ _ hHeld (fun hHeld => ?_)
  clear hK K
  try simp only [Act.put, List.getElem_toArray, List.getElem_cons_succ, List.getElem_cons_zero, List.setIfInBounds_toArray, List.set_cons_zero, List.set_cons_succ]
  refine wpAnyH_take (i := 15) (v := ?_) rfl (by kernel_rfl) (by kernel_rfl) (by kernel_rfl) (fun _ _ _ h => h) (Or.inl ⟨by rfl, ?_⟩) hHeld ?_
  rotate_left
  · intro wq hSw
    go_simp
    all_goals with_reducible rfl
  try simp only [Act.put, List.getElem_toArray, List.getElem_cons_succ, List.getElem_cons_zero, List.setIfInBounds_toArray, List.set_cons_zero, List.set_cons_succ]
  refine wpAnyH_ready (rs := [24]) (by kernel_rfl) (by simp) ?_
  refine AllReadyH.cons rfl (fun K hK => ?_) AllReadyH.nil
  go_simp
  refine (HLA.out _ hHeld).mono ?_
  rintro e w3 ⟨A9, n9, c9, rfl, q1, q2, q3, q4⟩
  have HQ : Hid (SymAt w w3 A9 n9 c9 (layN g s r)) := SymAt.before ⟨q1, q2, q3, q4⟩ hHeld
  have hh : Keep w w3 := Keep.trans hHeld q4
  clear q1 q2 q3 q4
  refine hK.out _ _ hh (fun hHeld => ?_)
  clear hK K
  try simp only [Act.put, List.getElem_toArray, List.getElem_cons_succ, List.getElem_cons_zero, List.setIfInBounds_toArray, List.set_cons_zero, List.set_cons_succ]
  refine wpAnyH_take (i := 25) (v := ?_) rfl (by kernel_rfl) (by kernel_rfl) (by kernel_rfl) (fun _ _ _ h => h) (Or.inl ⟨by rfl, ?_⟩) hHeld ?_
  rotate_left
  · intro wq hSw
    go_simp
    all_goals with_reducible rfl
  try simp only [Act.put, List.getElem_toArray, List.getElem_cons_succ, List.getElem_cons_zero, List.setIfInBounds_toArray, List.set_cons_zero, List.set_cons_succ]
  refine wpAnyH_take (i := 26) (v := ?_) rfl (by kernel_rfl) (by kernel_rfl) (by kernel_rfl) (fun _ _ _ h => h) (Or.inl ⟨by rfl, ?_⟩) hHeld ?_
  rotate_left
  · intro wq hSw
    go_simp
    all_goals with_reducible rfl
  try simp only [Act.put, List.getElem_toArray, List.getElem_cons_succ, List.getElem_cons_zero, List.setIfInBounds_toArray, List.set_cons_zero, List.set_cons_succ]
  refine wpAnyH_take (i := 27) (v := ?_) rfl (by kernel_rfl) (by kernel_rfl) (by kernel_rfl) (fun _ _ _ h => h) (Or.inl ⟨by rfl, ?_⟩) hHeld ?_
  rotate_left
  · intro wq hSw
    go_simp
    all_goals with_reducible rfl
  try simp only [Act.put, List.getElem_toArray, List.getElem_cons_succ, List.getElem_cons_zero, List.setIfInBounds_toArray, List.set_cons_zero, List.set_cons_succ]
  refine wpAnyH_take (i := 28) (v := ?_) rfl (by kernel_rfl) (by kernel_rfl) (by kernel_rfl) (fun _ _ _ h => h) (Or.inl ⟨by rfl, ?_⟩) hHeld ?_
  rotate_left
  · intro wq hSw
    go_simp
    all_goals with_reducible rfl
  try simp only [Act.put, List.getElem_toArray, List.getElem_cons_succ, List.getElem_cons_zero, List.setIfInBounds_toArray, List.set_cons_zero, List.set_cons_succ]
  refine wpAnyH_take (i := 29) (v := ?_) rfl (by kernel_rfl) (by kernel_rfl) (by kernel_rfl) (fun _ _ _ h => h) (Or.inl ⟨by rfl, ?_⟩) hHeld ?_
  rotate_left
  · intro wq hSw
    go_simp
    all_goals with_reducible rfl
  try simp only [Act.put, List.getElem_toArray, List.getElem_cons_succ, List.getElem_cons_zero, List.setIfInBounds_toArray, List.set_cons_zero, List.set_cons_succ]
  refine wpAnyH_done (by kernel_rfl) ?_ _
  refine NoPanic.normal ?_
  clear hHeld
  clear HLA HST HX0 HX1 HX2 HX4 HXE sl
  go_wp2_with fail
  go_ret
  exact ⟨_, _, _, rfl, HQ.out⟩
end
end Go.Proofs.YtgelalbmhllccaaGreat
/- Ints in memory: appended, cloned, compared; bytes cloned; beginnings of bytes. -/
namespace Go.Proofs.YtgelalbmhllccaaGreat
open Go.RowKit
set_option linter.unusedVariables false
set_option linter.unusedSimpArgs false
def natsV (l : List Nat) : List Value := l.map fun x : Nat => Value.int .i64 (x : Int)
/-- A slice of numbers, as ints. -/
def NatsAt (w : World) (B : Nat) (A : Option Addr) (n : Nat) (l : List Nat) : Prop := IntsAt w B A n (l.map fun x : Nat => (x : Int))
theorem NatsAt.length {w : World} {B n : Nat} {A : Option Addr} {l : List Nat} (h : NatsAt w B A n l) : l.length = n := by have := h.1; simpa using this
theorem NatsAt.at_ {w : World} {B n : Nat} {A : Option Addr} {l : List Nat} (h : NatsAt w B A n l) {i : Nat} (hi : i < n) : ∃ b off, A = some ⟨b, off, none⟩ ∧ b < B ∧ w.cell? ⟨b, off + i, none⟩ = some (.int .i64 ((l.getD i 0 : Nat) : Int)) := by
  obtain ⟨b, off, e, hb, hc⟩ := h.2 (by omega)
  refine ⟨b, off, e, hb, hc i _ ?_⟩
  have hl : i < l.length := by rw [h.length]; exact hi
  rw [List.getElem?_map, List.getElem?_eq_getElem hl, List.getD_eq_getElem?_getD, List.getElem?_eq_getElem hl]; rfl
theorem NatsAt.keep {w w' : World} {B n : Nat} {A : Option Addr} {l : List Nat} (h : NatsAt w B A n l) (hB : B ≤ w.heap.size) (k : Keep w w') : NatsAt w' B A n l := ⟨h.1, fun hp => by
  obtain ⟨b, off, e, hb, hc⟩ := h.2 hp
  exact ⟨b, off, e, hb, fun i z hz => by
    rw [World.cell?_of_block (k.block b (by show b < w.heap.size; omega))]; exact hc i z hz⟩⟩
theorem NatsAt.mono {w : World} {B B' n : Nat} {A : Option Addr} {l : List Nat} (h : NatsAt w B A n l) (hB : B ≤ B') : NatsAt w B' A n l := ⟨h.1, fun hp => by
  obtain ⟨b, off, e, hb, hc⟩ := h.2 hp
  exact ⟨b, off, e, by omega, hc⟩⟩
theorem OwnI.nats {w : World} {base n c : Nat} {A : Option Addr} {l : List Nat} (h : OwnI w base A n c l) : NatsAt w w.heap.size A n l := h.ints
section
variable {P : Program}
/-- append(ints, ints...). -/
theorem run_append_ints {w : World} {base n c B m cx t e : Nat} {A A' : Option Addr} {xs ys : List Nat} (ht : P.underlying t = some (.slice e))
    (hi : (P.info? e).map (fun i => (i.zero, i.size, i.bytes)) = some (some (.int .i64 0), 1, 8)) (hown : w.ownsRow base e 1 (.slice A n c) n (natsV xs)) (hx : NatsAt w B A' m ys) (hlen : n + m ≤ 17592186044416) (hbase : base ≤ w.heap.size) (ty : TypeId) :
    ∃ A2 c2 w', (Builtin.append_ #[t, t] ty #[.slice A n c, .slice A' m cx]).run P w = .ok (.slice A2 (n + m) c2) w' ∧ w'.ownsRow base e 1 (.slice A2 (n + m) c2) (n + m) (natsV (xs ++ ys)) ∧ w.grownBy w' (Value.slice A n c).ownBlock ∧ ((Value.slice A2 (n + m) c2).ownBlock = (Value.slice A n c).ownBlock ∨ (Value.slice A2 (n + m) c2).ownBlock = some w.heap.size) := by
  obtain ⟨i0, hi0, hz0, hz1, hz2⟩ := info_parts hi
  have h63 : n + m ≤ maxLen := by unfold maxLen; omega
  have hap : natsV (xs ++ ys) = natsV xs ++ natsV ys := by simp [natsV]
  have main : ∀ ad : Addr, A' = some ad → (∀ j u, (natsV ys)[j]? = some u → w.cell? (ad.add j) = some u) →
      ∃ A2 c2 w', (Builtin.append_ #[t, t] ty #[.slice A n c, .slice A' m cx]).run P w = .ok (.slice A2 (n + m) c2) w' ∧ w'.ownsRow base e 1 (.slice A2 (n + m) c2) (n + m) (natsV (xs ++ ys)) ∧ w.grownBy w' (Value.slice A n c).ownBlock ∧ ((Value.slice A2 (n + m) c2).ownBlock = (Value.slice A n c).ownBlock ∨ (Value.slice A2 (n + m) c2).ownBlock = some w.heap.size) := by
    rintro ad rfl hc
    obtain ⟨v', w', hrun, h2, h3, _, h5⟩ := run_append_own_at (P := P) w base t ty e i0 (.int .i64 0) 1 8 ht hi0 hz0 hz1 hz2 rfl (by decide) _ n (natsV xs) hown ad m cx (natsV ys) (by rw [natsV, List.length_map, hx.length, Nat.mul_one]) hc (fun u hu => by
      obtain ⟨x, _, rfl⟩ := List.mem_map.1 hu; rfl) h63 (by omega) hbase
    obtain ⟨A2, c2, rfl⟩ := own_shape h2
    exact ⟨A2, c2, w', hrun, by rw [hap]; exact h2, h3, h5⟩
  by_cases hm : m = 0
  · subst hm
    have hy : ys = [] := List.eq_nil_of_length_eq_zero hx.length
    subst hy
    cases A' with
    | some ad => exact main ad rfl (fun j u hu => by simp [natsV] at hu)
    | none =>
      refine ⟨A, c, w, ?_, by simpa using hown, World.grownBy.refl w _, Or.inl rfl⟩
      rcases hown.2 with ⟨hv, rfl⟩ | ⟨g, cap, cur, hv, _, _, hnc, _⟩
      · simp [Builtin.append_, run_underlying ht, sizeOf, typeInfo, hi0, Builtin.lenOf, Builtin.firstCells, hv]
      · injection hv with e1 _ e3
        subst e1; subst e3
        simp [Builtin.append_, run_underlying ht, sizeOf, typeInfo, hi0, Builtin.lenOf, Builtin.firstCells, hnc, storeCells]
  · obtain ⟨b, off, rfl, _, hc⟩ := hx.2 (by omega)
    refine main _ rfl fun j u hu => ?_
    have hu : (natsV ys)[j]? = some u := hu
    rw [natsV, List.getElem?_map] at hu
    cases hj : ys[j]? with
    | none => rw [hj] at hu; cases hu
    | some y =>
      rw [hj] at hu
      have hu : Value.int .i64 (y : Int) = u := by simpa using hu
      have ha : (⟨b, off, none⟩ : Addr).add j = ⟨b, off + j, none⟩ := by unfold Addr.add; split <;> simp_all
      rw [ha, ← hu]
      exact hc j (y : Int) (by rw [List.getElem?_map, hj]; rfl)
theorem wp_append_ints {w : World} {o : Oper} {a : Act} {K : Act → World → Prop} {Q : Exit → Act → World → Prop} (s x : Operand) (t : TypeId)
    (ho : o.op = .call { callee := .builtin .append, args := #[s, x], argTypes := #[t, t] }) {base n c B m cx e : Nat} {A A' : Option Addr} {xs ys : List Nat} (ht : P.underlying t = some (.slice e))
    (hi : (P.info? e).map (fun i => (i.zero, i.size, i.bytes)) = some (some (.int .i64 0), 1, 8)) (hs : a.eval s = .slice A n c) (hown : w.ownsRow base e 1 (.slice A n c) n (natsV xs)) (hx0 : a.eval x = .slice A' m cx) (hx : NatsAt w B A' m ys) (hlen : n + m ≤ 17592186044416) (hbase : base ≤ w.heap.size)
    (h : ∀ A2 c2 w', w'.ownsRow base e 1 (.slice A2 (n + m) c2) (n + m) (natsV (xs ++ ys)) → w.grownBy w' (Value.slice A n c).ownBlock → ((Value.slice A2 (n + m) c2).ownBlock = (Value.slice A n c).ownBlock ∨ (Value.slice A2 (n + m) c2).ownBlock = some w.heap.size) → K (a.put o.dst (.slice A2 (n + m) c2)) w') : o.wp P a w K Q := by
  obtain ⟨A2, c2, w', hr, h2, h3, h4⟩ := run_append_ints (P := P) (cx := cx) ht hi hown hx hlen hbase o.type
  unfold Oper.wp execOp
  simp only [ho, resolve, invoke, builtin, Sem.run_bind, Sem.run_pure, Result.andThen_ok, List.map_toArray, List.map_cons, List.map_nil, hs, hx0, hr]
  exact h A2 c2 w' h2 h3 h4
theorem wpList_append_ints {w : World} {ops : Array Oper} {rest : List Oper} {o : Oper} {a : Act} {Q : Exit → Act → World → Prop} (hgd : o.guard = none) (s x : Operand) (t : TypeId)
    (ho : o.op = .call { callee := .builtin .append, args := #[s, x], argTypes := #[t, t] }) {base n c B m cx e : Nat} {A A' : Option Addr} {xs ys : List Nat} (ht : P.underlying t = some (.slice e))
    (hi : (P.info? e).map (fun i => (i.zero, i.size, i.bytes)) = some (some (.int .i64 0), 1, 8)) (hs : a.eval s = .slice A n c) (hown : w.ownsRow base e 1 (.slice A n c) n (natsV xs)) (hx0 : a.eval x = .slice A' m cx) (hx : NatsAt w B A' m ys) (hlen : n + m ≤ 17592186044416) (hbase : base ≤ w.heap.size)
    (h : ∀ A2 c2 w', w'.ownsRow base e 1 (.slice A2 (n + m) c2) (n + m) (natsV (xs ++ ys)) → w.grownBy w' (Value.slice A n c).ownBlock → ((Value.slice A2 (n + m) c2).ownBlock = (Value.slice A n c).ownBlock ∨ (Value.slice A2 (n + m) c2).ownBlock = some w.heap.size) → wpList P ops Q rest (a.put o.dst (.slice A2 (n + m) c2)) w') : wpList P ops Q (o :: rest) a w :=
  wpList_plain hgd fun _ hK => wp_append_ints s x t ho ht hi hs hown hx0 hx hlen hbase fun A2 c2 w' h2 h3 h4 => hK _ _ (h A2 c2 w' h2 h3 h4)
end
/-- What a call hands back that lays ints in new memory. -/
def NewInts (w : World) (l : List Nat) (r : Ending) (w' : World) : Prop := ∃ A n c, r = .returned (.slice A n c) ∧ OwnI w' w.heap.size A n c l ∧ Keep w w'
theorem lit_ints (w : World) : (w.alloc (.cells #[] 3)).ownsRow w.heap.size 3 1 (.slice (some ⟨w.heap.size, 0, none⟩) 0 0) 0 (natsV []) :=
  ⟨rfl, Or.inr ⟨w.heap.size, 0, #[], rfl, Nat.le_refl _, heap_alloc_new w _, Nat.le_refl _, by unfold maxLen; omega, rfl, rfl⟩⟩
set_option maxRecDepth 100000 in
theorem cloneints_any (B n c : Nat) (A : Option Addr) (l : List Nat) (w : World) (h : NatsAt w B A n l) (hB : B ≤ w.heap.size) (hn : n ≤ 17592186044416) :
    Calls Tryz.prog 97 #[.slice A n c] w (NewInts w l) := by
  cases A with
  | none =>
    have h0 : n = 0 := by
      rcases Nat.eq_zero_or_pos n with e | e
      · exact e
      · obtain ⟨b, off, e, _⟩ := h.2 e; cases e
    subst h0
    have hx : l = [] := List.eq_nil_of_length_eq_zero h.length
    subst hx
    have hq := fun (w : World) => Lib.run_eql_slice_nil (P := Tryz.prog) w 126 3 none 0 c 0 0 Tryz.underlying126
    clear h
    go_enter Tryz.func97, Tryz.ntmps97
    go_wp2_with fail
    go_ret
    exact ⟨none, 0, 0, rfl, OwnI.none_ _ _, Keep.refl _⟩
  | some ad =>
    have hq := fun (w : World) => Lib.run_eql_slice_nil (P := Tryz.prog) w 126 3 (some ad) n c 0 0 Tryz.underlying126
    have HO := lit_ints w
    have HB := Lib.hid (h.keep hB ((Keep.refl w).alloc #[] 3))
    clear h
    go_enter Tryz.func97, Tryz.ntmps97
    go_wp2_with (at_builtin; refine wpList_append_ints rfl _ _ 126 rfl Tryz.underlying126 infoInt rfl HO rfl HB.out ?c1 ?c2 ?_)
    case c1 => omega
    case c2 => simp
    intro A' c' w' hown hgr _
    have hk : Keep w w' := ((Keep.refl w).alloc #[] 3).grown hgr (fun k hk => by cases hk; exact Nat.le_refl _)
    go_wp2_with fail
    go_ret
    exact ⟨A', _, c', rfl, by simpa [OwnI, natsV] using hown, hk⟩
end Go.Proofs.YtgelalbmhllccaaGreat
