/- The landed pad: Take. -/
import Derived.Test.YtgelalbmhllccaaGreatQal
import Derived.Test.YtgelalbmhllccaaGreatQab
namespace Go.Proofs.YtgelalbmhllccaaGreat
open Go.RowKit
set_option linter.unusedVariables false
set_option linter.unusedSimpArgs false
theorem ptake_out (g s : Int) (h : ¬ MayG g s) (A : Option Addr) (n c : Nat) (w : World) : Calls Tryz.prog 72 #[.slice A n c, .int .i64 g, .int .i64 s] w (NewPair w [] 1) := by
  have hc : (w.alloc (.cells #[.int .i64 s] 3)).cell? ⟨w.heap.size, 0, none⟩ = some (.int .i64 s) := by rw [World.cell?_alloc_at _ _ _ _ rfl]; rfl
  go_enter Tryz.func72, Tryz.ntmps72
  go_wp2_with fail
  refine (proom_out g s h _).mono ?_
  rintro e w1 ⟨rfl, rfl⟩
  go_wp2_with fail
  go_ret2
  exact NewPair.none_at ((Keep.refl w).alloc _ _) 1
theorem ptake_dim (G S P n : Nat) (g1 : 1 ≤ G) (g2 : G ≤ 255) (s1 : 1 ≤ S) (s2 : S ≤ 65535) (hP : (G : Int) * (S : Int) = (P : Int)) (p1 : 5 ≤ P) (p2 : P ≤ 16711425) (hn : n ≠ G) (A : Option Addr) (c : Nat) (w : World) : Calls Tryz.prog 72 #[.slice A n c, .int .i64 (G : Int), .int .i64 (S : Int)] w (NewPair w [] 21) := by
  have d1 : ((n : Int) == (G : Int)) = false := beq_eq_false_iff_ne.2 (by omega)
  have hc : (w.alloc (.cells #[.int .i64 (S : Int)] 3)).cell? ⟨w.heap.size, 0, none⟩ = some (.int .i64 (S : Int)) := by rw [World.cell?_alloc_at _ _ _ _ rfl]; rfl
  go_enter Tryz.func72, Tryz.ntmps72
  go_wp2_with fail
  refine (proom_in G S P g1 g2 s1 s2 hP p1 p2 _).mono ?_
  rintro e w1 ⟨rfl, rfl⟩
  go_wp2_with fail
  go_ret2
  exact NewPair.none_at ((Keep.refl w).alloc _ _) 21
theorem join_flat (rs : List RowV) : joinN rs = (rowsOf rs).flatten := by simp [joinN, rowsOf, List.flatMap_def]
theorem sizes_all {S : Nat} : ∀ {rs : List RowV}, (∀ r ∈ rs, r.n = S) → sizesN rs = rs.length * S
  | [], _ => by simp [sizesN]
  | r :: rs, h => by
    have ih := sizes_all (rs := rs) fun x hx => h x (by simp [hx])
    unfold sizesN at ih ⊢
    rw [List.map_cons, List.sum_cons, ih, h r (by simp), List.length_cons, Nat.add_mul, Nat.one_mul, Nat.add_comm]
theorem okSym_iff {G S : Nat} {rs : List RowV} (hl : rs.length = G) (hx : ∀ r ∈ rs, r.xs.length = r.n) : okSym G S (rowsOf rs) ↔ rs.any (fun r => r.n != S) = false := by
  rw [List.any_eq_false]
  constructor
  · rintro ⟨_, h⟩ r hr
    have := h r.xs (List.mem_map.2 ⟨r, hr, rfl⟩)
    rw [hx r hr] at this
    simp [this]
  · intro h
    refine ⟨by rw [rowsOf, List.length_map, hl], fun x hm => ?_⟩
    obtain ⟨r, hr, rfl⟩ := List.mem_map.1 hm
    have := h r hr
    rw [hx r hr]
    simpa using this
set_option maxRecDepth 100000 in
set_option maxHeartbeats 4000000 in
theorem ptake_in (G S P : Nat) (g1 : 1 ≤ G) (g2 : G ≤ 255) (s1 : 1 ≤ S) (s2 : S ≤ 65535) (hP : (G : Int) * (S : Int) = (P : Int)) (p1 : 5 ≤ P) (p2 : P ≤ 16711425) (A : Option Addr) (c : Nat) (rs : List RowV) (w : World) (h : RowsAt w w.heap.size A G rs) :
    Calls Tryz.prog 72 #[.slice A G c, .int .i64 (G : Int), .int .i64 (S : Int)] w (NewPair w (takeV G S (rowsOf rs)) (takeE G S (rowsOf rs))) := by
  have HPN : Hid (G * S = P) := by
    have : ((G * S : Nat) : Int) = (P : Int) := by rw [← hP]; simp
    show _ = _
    omega
  obtain ⟨w0, hw0⟩ : ∃ w0, w.alloc (.cells #[.int .i64 (S : Int)] 3) = w0 := ⟨_, rfl⟩
  obtain ⟨gs, hgs⟩ : ∃ gs, w.heap.size = gs := ⟨_, rfl⟩
  have hc : w0.cell? ⟨gs, 0, none⟩ = some (.int .i64 (S : Int)) := by rw [← hw0, ← hgs, World.cell?_alloc_at _ _ _ _ rfl]; rfl
  have K0 : Hid (Keep w w0) := by show Keep w w0; rw [← hw0]; exact (Keep.refl w).alloc _ _
  have H0 : Hid (RowsAt w0 w0.heap.size A G rs) := by
    have h1 := h.keep (Nat.le_refl _) K0.out
    exact ⟨h1.1, fun r hr => ⟨(h1.2.1 r hr).1.mono K0.out.size, (h1.2.1 r hr).2⟩, fun hn => by
      obtain ⟨b, off, e, hb, hcc⟩ := h1.2.2 hn
      exact ⟨b, off, e, Nat.lt_of_lt_of_le hb K0.out.size, hcc⟩⟩
  have HR := Lib.hid (proom_in G S P g1 g2 s1 s2 hP p1 p2 w0)
  have HSZ := Lib.hid (psizes_any w0.heap.size G c S gs A rs w0 H0.out (by omega) hc)
  have HX : Hid (∀ r ∈ rs, r.xs.length = r.n) := fun r hr => (H0.out.2.1 r hr).1.length
  have HOK := Lib.hid (okSym_iff (S := S) H0.out.1 HX.out)
  have HW0 := Lib.hid hw0
  have HGS := Lib.hid hgs
  clear h
  generalize hq : rs.any (fun r => r.n != S) = q at *
  have HQ := Lib.hid hq
  clear hq
  obtain ⟨E, hE⟩ : ∃ E, takeE G S (rowsOf rs) = E := ⟨_, rfl⟩
  obtain ⟨V, hV⟩ : ∃ V, takeV G S (rowsOf rs) = V := ⟨_, rfl⟩
  rw [hE, hV]
  have HEE := Lib.hid hE
  have HVV := Lib.hid hV
  clear hE hV
  go_enter Tryz.func72, Tryz.ntmps72
  go_wp2_with fail
  refine HR.out.mono ?_
  rintro e w1 ⟨rfl, rfl⟩
  cases q with
  | true =>
    have h1 : E = 21 := by
      rw [← HEE.out, takeE, if_pos]
      intro hok
      exact absurd (HOK.out.1 hok) (by decide)
    have h2 : V = [] := by rw [← HVV.out, takeV, HEE.out, if_neg (by rw [h1]; decide)]
    clear HEE HVV
    subst h1; subst h2
    go_wp2_with fail
    refine HSZ.out.mono ?_
    rintro e w1 ⟨rfl, rfl⟩
    go_wp2_with fail
    go_ret2
    exact NewPair.none_at K0.out 21
  | false =>
    have hok : okSym G S (rowsOf rs) := HOK.out.2 rfl
    have hsz : ∀ r ∈ rs, r.n = S := fun r hr => by
      have := List.any_eq_false.1 HQ.out r hr
      simpa using this
    have HSS : Hid (sizesN rs = P) := by show _ = _; rw [sizes_all hsz, H0.out.1, HPN.out]
    obtain ⟨Y, hY⟩ : ∃ Y, (rowsOf rs).flatten = Y := ⟨_, rfl⟩
    have HJ : Hid (joinN rs = Y) := by show _ = _; rw [join_flat, hY]
    have HYL : Hid (Y.length = P) := by
      show _ = _
      rw [← hY, flat_cut hok.2, hok.1, HPN.out]
    have HYA : Hid (AllB Y) := by
      rw [← HJ.out]
      show AllB (joinN rs)
      intro x hx
      obtain ⟨r, hr, hx⟩ := List.mem_flatMap.1 hx
      exact (H0.out.2.1 r hr).1.2.1 x hx
    have HE : Hid (E = (if ¬ okForm P Y then 5 else 0) ∧ V = if E = 0 then (Y.drop 4).take (headN Y) else []) := by
      refine And.intro ?_ ?_
      · rw [← HEE.out, takeE, if_neg (not_not_intro hok), hY, HPN.out]
      · rw [← HVV.out, takeV, HEE.out, hY]
    clear HEE HVV hsz hok
    go_wp2_with fail
    refine HSZ.out.mono ?_
    rintro e w1 ⟨rfl, rfl⟩
    go_wp2_with fail
    refine (concat_any w0.heap.size G c A rs w0 H0.out.up (Nat.le_refl _) (by omega) (by rw [HSS.out]; omega)).mono ?_
    rintro e w2 ⟨A2, n2, c2, rfl, o2, k2⟩
    rw [HJ.out] at o2
    have hn2 : P = n2 := by have := o2.length; rw [HYL.out] at this; exact this
    subst hn2
    have K2 : Hid (Keep w w2) := K0.out.trans k2
    have B2 := Lib.hid o2.bytes
    clear o2 k2
    go_wp2_with fail
    refine (wnew_any _ P c2 A2 Y w2 B2.out (Nat.le_refl _) (by omega)).mono ?_
    rintro e w3 ⟨g, F, rfl, hr, hF, k3⟩
    have hgw : Hid (w.heap.size ≤ g) := by
      have h1 := hF g hr.at_
      have h2 := K2.out.size
      show _ ≤ _; omega
    have K3 : Hid (Keep w w3) := K2.out.trans k3
    have R3 := Lib.hid hr
    clear hr hF k3
    go_wp2_with fail
    refine (wread_in F g Y 4 (by omega) (by omega) (by rw [HYL.out]; omega) w3 R3.out).mono ?_
    rintro e w4 ⟨rfl, r4, k4⟩
    have R4 := Lib.hid r4
    have K4 : Hid (Keep w w4) := K3.out.grown k4 fun k hk => by injection hk with hk; rw [← hk]; exact hgw.out
    clear r4 k4
    obtain ⟨v, hv⟩ : ∃ v, valN (Y.take 4) = v := ⟨_, rfl⟩
    have HV : Hid (headN Y = v) := hv
    have hvl : v < 4294967296 := by
      rw [← hv]
      have := valN_lt (Y.take 4) (HYA.out.take 4)
      rw [List.length_take, HYL.out, Nat.min_eq_left (by omega)] at this
      simpa using this
    rw [hv]
    clear hv
    have w1 : IntKind.u64.wrap ((P - 4 : Nat) : Int) = ((P - 4 : Nat) : Int) := IntWalk.u64_in _ (by omega)
    have w2 : IntKind.i64.wrap (v : Int) = (v : Int) := IntWalk.i64_in _ (by omega)
    by_cases hv1 : v < 1
    · have d1 : ((v : Int) == 0) = true := by rw [beq_iff_eq]; omega
      have h1 : E = 5 := by rw [HE.out.1, if_pos]; intro hk; have := hk.1; rw [HV.out] at this; omega
      have h2 : V = [] := by rw [HE.out.2, if_neg (by rw [h1]; decide)]
      clear HE
      subst h1; subst h2
      obtain rfl : v = 0 := by omega
      clear hv1 d1
      go_wp2_with fail
      go_ret2
      exact NewPair.none_at K4.out 5
    have d1 : ((v : Int) == 0) = false := beq_eq_false_iff_ne.2 (by omega)
    by_cases hv2 : P - 4 < v
    · have d2 : decide (((P - 4 : Nat) : Int) < (v : Int)) = true := decide_eq_true (by omega)
      have d2' : decide (P - 4 < v) = true := decide_eq_true hv2
      have h1 : E = 5 := by rw [HE.out.1, if_pos]; intro hk; have := hk.2.1; rw [HV.out] at this; omega
      have h2 : V = [] := by rw [HE.out.2, if_neg (by rw [h1]; decide)]
      clear HE
      subst h1; subst h2
      go_wp2_with fail
      go_ret2
      exact NewPair.none_at K4.out 5
    have d2 : decide (((P - 4 : Nat) : Int) < (v : Int)) = false := decide_eq_false (by omega)
    have d2' : decide (P - 4 < v) = false := decide_eq_false hv2
    have HV1 : Hid (1 ≤ v ∧ v + 4 ≤ P) := ⟨by omega, by omega⟩
    clear hv1 hv2
    go_wp2_with fail
    refine (wtake_in F g (Y.drop 4) v (by rw [List.length_drop, HYL.out]; have := HV1.out; omega) (by omega) w4 R4.out).mono ?_
    rintro e w5 ⟨A5, n5, c5, rfl, o5, ⟨r5, f5⟩, k5⟩
    have O5 : Hid (Own w5 w.heap.size 5 A5 n5 c5 ((Y.drop 4).take v)) := o5.lower K4.out.size
    have R5 := Lib.hid r5
    have F5 := Lib.hid f5
    have K5 : Hid (Keep w w5) := K4.out.grown k5 fun k hk => by injection hk with hk; rw [← hk]; exact hgw.out
    clear o5 r5 f5 k5
    go_wp2_with fail
    refine (wleft_any F g ((Y.drop 4).drop v) w5 R5.out).mono ?_
    rintro e w6 ⟨rfl, rfl⟩
    obtain ⟨Z, hZ⟩ : ∃ Z, (Y.drop 4).drop v = Z := ⟨_, rfl⟩
    have HZ : Hid (Y.drop (4 + v) = Z) := by show _ = _; rw [← hZ, List.drop_drop]
    have HZL : Hid (Z.length = P - 4 - v) := by show _ = _; rw [← hZ, List.length_drop, List.length_drop, HYL.out]
    rw [hZ] at R5 ⊢
    clear hZ
    obtain ⟨z, hz⟩ : ∃ z, Z.length = z := ⟨_, rfl⟩
    have hzb : z ≤ 16711425 := by have := HZL.out; omega
    have T7 := Lib.hid (wtake_in F g Z z (by omega) (by omega) w5 R5.out)
    have HZZ := Lib.hid hz
    rw [hz]
    clear hz
    go_wp2_with fail
    refine T7.out.mono ?_
    rintro e w7 ⟨A7, n7, c7, rfl, o7, _, k7⟩
    rw [List.take_of_length_le (by rw [HZZ.out]; exact Nat.le_refl _)] at o7
    have hn7 : z = n7 := by have := o7.length; rw [HZZ.out] at this; exact this
    subst hn7
    have O7 : Hid (Own w7 w.heap.size 5 A5 n5 c5 ((Y.drop 4).take v)) := O5.out.turned (Turned.of_grown (F := fun b => b = g) k7 fun i hi => by injection hi with hi; exact hi.symm) fun b hb hf => F5.out b hb (by rw [hf]; exact R5.out.at_)
    have B7 := Lib.hid o7.bytes
    have K7 : Hid (Keep w w7) := K5.out.grown k7 fun k hk => by injection hk with hk; rw [← hk]; exact hgw.out
    clear o7 k7
    obtain ⟨q, hq⟩ : ∃ q, Z.any (fun x => x != 0) = q := ⟨_, rfl⟩
    have HN := Lib.hid (pnoughts_any _ z c7 A7 Z w7 B7.out (by omega))
    rw [hq] at HN
    have HQ7 := Lib.hid hq
    clear hq
    go_wp2_with fail
    refine HN.out.mono ?_
    rintro e w8 ⟨rfl, rfl⟩
    cases q with
    | true =>
      have h1 : E = 5 := by
        rw [HE.out.1, if_pos]
        intro hk
        have h3 := hk.2.2
        rw [HV.out, HZ.out] at h3
        obtain ⟨x, hx, hx0⟩ := List.any_eq_true.1 HQ7.out
        rw [h3 x hx] at hx0
        exact absurd hx0 (by decide)
      have h2 : V = [] := by rw [HE.out.2, if_neg (by rw [h1]; decide)]
      clear HE
      subst h1; subst h2
      go_wp2_with fail
      go_ret2
      exact NewPair.none_at K7.out 5
    | false =>
      have h1 : E = 0 := by
        rw [HE.out.1, if_neg]
        refine not_not_intro ⟨by rw [HV.out]; exact HV1.out.1, by rw [HV.out]; have := HV1.out; omega, fun x hx => ?_⟩
        rw [HV.out, HZ.out] at hx
        have := List.any_eq_false.1 HQ7.out x hx
        simpa using this
      have h2 : V = (Y.drop 4).take v := by rw [HE.out.2, if_pos h1, HV.out]
      clear HE
      subst h1; subst h2
      go_wp2_with fail
      go_ret2
      exact ⟨A5, n5, c5, rfl, O7.out, K7.out⟩
end Go.Proofs.YtgelalbmhllccaaGreat
/- The landed pad: Lay. -/
namespace Go.Proofs.YtgelalbmhllccaaGreat
open Go.RowKit
set_option linter.unusedVariables false
set_option linter.unusedSimpArgs false
theorem Cur.turned {F : Nat → Prop} {w w' : World} {gC m c : Nat} {A : Option Addr} (h : Cur w gC m c A) (k : Turned F w w') (hn : ¬ F gC) : Cur w' gC m c A := (k.block gC (lt_of_block h) hn).trans h
theorem Cur.keep {w w' : World} {gC m c : Nat} {A : Option Addr} (h : Cur w gC m c A) (k : Keep w w') : Cur w' gC m c A := (k.block gC (lt_of_block h)).trans h
theorem Cur.lt {w : World} {gC m c : Nat} {A : Option Addr} (h : Cur w gC m c A) : gC < w.heap.size := lt_of_block h
/-- The rows of one block, cut. -/
def rsL (b S : Nat) (ys : List Nat) (k : Nat) : List RowV := (List.range k).map fun i => ⟨some ⟨b, i * S, none⟩, S, S, cutN S i ys⟩
theorem rsL_len (b S : Nat) (ys : List Nat) (k : Nat) : (rsL b S ys k).length = k := by simp [rsL]
theorem rsL_succ (b S : Nat) (ys : List Nat) (k : Nat) : rsL b S ys (k + 1) = rsL b S ys k ++ [⟨some ⟨b, k * S, none⟩, S, S, cutN S k ys⟩] := by simp [rsL, List.range_succ]
theorem rsL_get {b S k i : Nat} {ys : List Nat} (h : i < k) : (rsL b S ys k)[i]? = some ⟨some ⟨b, i * S, none⟩, S, S, cutN S i ys⟩ := by simp [rsL, h]
theorem rsL_xs (b S : Nat) (ys : List Nat) (k : Nat) : rowsXs (rsL b S ys k) = cutsN k S ys := by simp [rsL, rowsXs, cutsN, Function.comp_def]
def rsM (b S : Nat) (ys : List Nat) (G k : Nat) : List RowV := rsL b S ys k ++ List.replicate (G - k) ⟨none, 0, 0, []⟩
theorem rsM_set {b S G k : Nat} {ys : List Nat} (h : k < G) : (rsM b S ys G k).set k ⟨some ⟨b, k * S, none⟩, S, S, cutN S k ys⟩ = rsM b S ys G (k + 1) := by
  rw [rsM, List.set_append_right _ _ (by rw [rsL_len]; exact Nat.le_refl _), rsL_len, Nat.sub_self, rsM, rsL_succ, List.append_assoc]
  rw [show G - k = (G - (k + 1)) + 1 by omega, List.replicate_succ]
  rfl
theorem rsM_all (b S : Nat) (ys : List Nat) (G : Nat) : rsM b S ys G G = rsL b S ys G := by simp [rsM]
theorem rsM_zero (b S : Nat) (ys : List Nat) (G : Nat) : rsM b S ys G 0 = List.replicate G ⟨none, 0, 0, []⟩ := by simp [rsM, rsL]
/-- What Lay hands back: rows of one block of its own, side by side. -/
def LaidAt (w : World) (base gr b c G S P : Nat) (ys : List Nat) : Prop :=
  OwnRows w base 43 (some ⟨gr, 0, none⟩) G G (rsL b S ys G) ∧ Own w base 5 (some ⟨b, 0, none⟩) P c ys
def NewLaid (w : World) (G S P : Nat) (ys : List Nat) (e : Ending) (w' : World) : Prop :=
  ∃ gr b c, e = .returned (.tuple #[.slice (some ⟨gr, 0, none⟩) G G, .int .i64 0]) ∧ LaidAt w' w.heap.size gr b c G S P ys ∧ Keep w w'
theorem play_out (g s : Int) (h : ¬ MayG g s) (A : Option Addr) (n c : Nat) (w : World) : Calls Tryz.prog 139 #[.slice A n c, .int .i64 g, .int .i64 s] w fun e w' => e = .returned (.tuple #[.slice none 0 0, .int .i64 1]) ∧ w = w' := by
  go_enter Tryz.func139, Tryz.ntmps139
  go_wp2_with fail
  refine (proom_out g s h w).mono ?_
  rintro e w1 ⟨rfl, rfl⟩
  go_wp2_with fail
  go_ret2
  exact ⟨rfl, rfl⟩
theorem play_none (G S P : Nat) (g1 : 1 ≤ G) (g2 : G ≤ 255) (s1 : 1 ≤ S) (s2 : S ≤ 65535) (hP : (G : Int) * (S : Int) = (P : Int)) (p1 : 5 ≤ P) (p2 : P ≤ 16711425) (A : Option Addr) (c : Nat) (w : World) : Calls Tryz.prog 139 #[.slice A 0 c, .int .i64 (G : Int), .int .i64 (S : Int)] w fun e w' => e = .returned (.tuple #[.slice none 0 0, .int .i64 4]) ∧ w = w' := by
  go_enter Tryz.func139, Tryz.ntmps139
  go_wp2_with fail
  refine (proom_in G S P g1 g2 s1 s2 hP p1 p2 w).mono ?_
  rintro e w1 ⟨rfl, rfl⟩
  go_wp2_with fail
  go_ret2
  exact ⟨rfl, rfl⟩
theorem play_long (G S P n : Nat) (g1 : 1 ≤ G) (g2 : G ≤ 255) (s1 : 1 ≤ S) (s2 : S ≤ 65535) (hP : (G : Int) * (S : Int) = (P : Int)) (p1 : 5 ≤ P) (p2 : P ≤ 16711425) (hn : P < n + 4) (A : Option Addr) (c : Nat) (w : World) : Calls Tryz.prog 139 #[.slice A n c, .int .i64 (G : Int), .int .i64 (S : Int)] w fun e w' => e = .returned (.tuple #[.slice none 0 0, .int .i64 3]) ∧ w = w' := by
  have d1 : ((n : Int) == 0) = false := beq_eq_false_iff_ne.2 (by omega)
  have d2 : ((P - 4 : Nat) : Int) < (n : Int) := by omega
  go_enter Tryz.func139, Tryz.ntmps139
  go_wp2_with fail
  refine (proom_in G S P g1 g2 s1 s2 hP p1 p2 w).mono ?_
  rintro e w1 ⟨rfl, rfl⟩
  go_wp2_with fail
  go_ret2
  exact ⟨rfl, rfl⟩
set_option maxRecDepth 100000 in
set_option maxHeartbeats 4000000 in
theorem play_in (G S P n : Nat) (g1 : 1 ≤ G) (g2 : G ≤ 255) (s1 : 1 ≤ S) (s2 : S ≤ 65535) (hP : (G : Int) * (S : Int) = (P : Int)) (p1 : 5 ≤ P) (p2 : P ≤ 16711425) (hn1 : 1 ≤ n) (hn : n + 4 ≤ P) (A : Option Addr) (c : Nat) (xs : List Nat) (w : World) (h : Bytes w w.heap.size A n xs) :
    Calls Tryz.prog 139 #[.slice A n c, .int .i64 (G : Int), .int .i64 (S : Int)] w (NewLaid w G S P (allN P xs)) := by
  have H := Lib.hid h
  have HXL : Hid (xs.length = n) := h.length
  have HPN : Hid (G * S = P) := by
    have : ((G * S : Nat) : Int) = (P : Int) := by rw [← hP]; simp
    show _ = _
    omega
  have d1 : ((n : Int) == 0) = false := beq_eq_false_iff_ne.2 (by omega)
  have d2 : ¬ ((P - 4 : Nat) : Int) < (n : Int) := by omega
  have d3 : decide (((P - 4 : Nat) : Int) < (n : Int)) = false := decide_eq_false d2
  have d3' : decide (P - 4 < n) = false := decide_eq_false (by omega)
  have u1 : IntKind.u64.wrap (n : Int) = (n : Int) := IntWalk.u64_in _ (by omega)
  obtain ⟨q, hq⟩ : ∃ q, P - 4 - n = q := ⟨_, rfl⟩
  have u2 : IntKind.i64.wrap (((P - 4 : Nat) : Int) - (n : Int)) = (q : Int) := by rw [show ((P - 4 : Nat) : Int) - (n : Int) = (q : Int) by omega]; exact IntWalk.i64_in _ (by omega)
  have HQ := Lib.hid hq
  have hqb : q ≤ 16711425 := by omega
  clear h hq
  go_enter Tryz.func139, Tryz.ntmps139
  go_wp2_with fail
  refine (proom_in G S P g1 g2 s1 s2 hP p1 p2 w).mono ?_
  rintro e w1 ⟨rfl, rfl⟩
  go_wp2_with fail
  refine (wnum_in 0 0 0 n 4 none [] w (Bytes.nil _ _ _) (Nat.zero_le _) (by omega) (by omega) (by omega) (by omega)).mono ?_
  rintro e w1 ⟨A1, n1, c1, rfl, o1, k1⟩
  have hlt4 : n < 256 ^ 4 := by have : (256 : Nat) ^ 4 = 4294967296 := by decide
                                omega
  rw [laysOf, if_pos hlt4, List.nil_append] at o1
  rw [laysErr, if_pos hlt4]
  have hn1' : 4 = n1 := by have := o1.length; rw [formN_length] at this; exact this
  subst hn1'
  have O1 := Lib.hid o1
  have K1 := Lib.hid k1
  clear o1 k1 hlt4
  have mk := run_make_bytes (P := Tryz.prog) Tryz.underlying43 info5 q (by omega) w1
  obtain ⟨w2, hw2⟩ : ∃ w2, w1.alloc (.cells (madeCells #[.int .u8 0] q) 5) = w2 := ⟨_, rfl⟩
  have O2 : Hid (Own w2 w1.heap.size 5 (some ⟨w1.heap.size, 0, none⟩) q q (List.replicate q 0)) := by rw [← hw2]; exact Own.made w1 5 q (by omega)
  have K2 : Hid (Keep w1 w2) := by show Keep _ _; rw [← hw2]; exact (Keep.refl _).alloc _ _
  rw [hw2] at mk
  obtain ⟨gz, hgz⟩ : ∃ gz, w1.heap.size = gz := ⟨_, rfl⟩
  rw [hgz] at mk O2
  clear hw2 hgz
  have HR := Lib.hid (RowsUp.lit (w := w2) rfl 43 3 [⟨A1, 4, c1, formN 4 n⟩, ⟨A, n, c, xs⟩, ⟨some ⟨gz, 0, none⟩, q, q, List.replicate q 0⟩] #[.slice A1 4 c1, .slice A n c, .slice (some ⟨gz, 0, none⟩) q q] rfl rfl (fun r hr => by
    simp only [List.mem_cons, List.not_mem_nil, or_false] at hr
    rcases hr with rfl | rfl | rfl
    · exact (O1.out.keep K2.out).bytes
    · exact (H.out.keep (Nat.le_refl _) (K1.out.trans K2.out)).mono (K1.out.trans K2.out).size
    · exact O2.out.bytes))
  go_wp2_with fail
  refine (concat_any _ 3 _ _ _ _ HR.out (by simp) (by omega) (by simp [sizesN]; omega)).mono ?_
  rintro e w3 ⟨A3, n3, c3, rfl, o3, k3⟩
  have hY : joinN [⟨A1, 4, c1, formN 4 n⟩, ⟨A, n, c, xs⟩, ⟨some ⟨gz, 0, none⟩, q, q, List.replicate q 0⟩] = allN P xs := by
    simp [joinN, allN, HXL.out, HQ.out]
  rw [hY] at o3
  obtain ⟨Y, hYY⟩ : ∃ Y, allN P xs = Y := ⟨_, rfl⟩
  have HYL : Hid (Y.length = P) := by rw [← hYY]; exact allN_len (by rw [HXL.out]; exact hn)
  have HYY := Lib.hid hYY
  rw [hYY] at o3
  have hn3 : P = n3 := by have := o3.length; rw [HYL.out] at this; exact this
  subst hn3
  have K3 : Hid (Keep w w3) := (K1.out.trans (K2.out.trans ((Keep.refl _).alloc _ _))).trans k3
  have hsz : w.heap.size ≤ (w2.alloc (.cells #[.slice A1 4 c1, .slice A n c, .slice (some ⟨gz, 0, none⟩) q q] 43)).heap.size := (K1.out.trans (K2.out.trans ((Keep.refl _).alloc _ _))).size
  have o3 := o3.lower hsz
  obtain ⟨b, rfl, hb1, hb2⟩ := o3.block (by omega)
  have hPc : P ≤ c3 := own_le o3
  have O3 := Lib.hid o3
  have HB := Lib.hid (And.intro hb1 hb2)
  clear o3 k3 hY hYY HR O1 O2 K1 K2 mk hsz hb1 hb2
  go_wp2_with fail
  refine (handing_any (some ⟨b, 0, none⟩) P c3 w3).mono ?_
  rintro e w4 ⟨rfl, hw4⟩
  have mk := run_make_rows (P := Tryz.prog) Tryz.underlying40 infoRow G (by omega) w4
  obtain ⟨gC, hgC⟩ : ∃ gC, w3.heap.size = gC := ⟨_, rfl⟩
  obtain ⟨gr, hgr⟩ : ∃ gr, w4.heap.size = gr := ⟨_, rfl⟩
  obtain ⟨w5, hw5⟩ : ∃ w5, w4.alloc (.cells (madeCells #[.slice none 0 0] G) 43) = w5 := ⟨_, rfl⟩
  have K4 : Hid (Keep w3 w4) := by show Keep _ _; rw [hw4]; exact (Keep.refl _).alloc _ _
  have K5 : Hid (Keep w4 w5) := by show Keep _ _; rw [← hw5]; exact (Keep.refl _).alloc _ _
  have C5 : Hid (Cur w5 gC P c3 (some ⟨b, 0, none⟩)) := by
    have h1 : Cur w4 gC P c3 (some ⟨b, 0, none⟩) := by rw [hw4, ← hgC]; exact heap_alloc_new w3 _
    exact h1.keep K5.out
  have O5 : Hid (Own w5 w.heap.size 5 (some ⟨b, 0, none⟩) P c3 Y) := O3.out.keep (K4.out.trans K5.out)
  have R5 : Hid (OwnRows w5 w.heap.size 43 (some ⟨gr, 0, none⟩) G G (rsM b S Y G 0)) := by
    rw [rsM_zero]
    show OwnRows _ _ _ _ _ _ _
    rw [← hw5, ← hgr]
    exact OwnRows.lower (OwnRows.made w4 43 G (by omega)) (K3.out.trans K4.out).size
  have HK5 : Hid (Keep w w5) := K3.out.trans (K4.out.trans K5.out)
  have HN : Hid (b < gC ∧ gC < gr ∧ w.heap.size ≤ gC) := by
    have h1 := HB.out.2
    have h2 := K3.out.size
    have h3 : gC < gr := by rw [← hgr, hw4, ← hgC]; simp
    refine ⟨?_, h3, ?_⟩ <;> omega
  rw [hgr, hw5] at mk
  rw [hgC]
  clear hw4 hgC hgr hw5 K4 K5 O3
  go_wp2_with fail
  go_loopw [52] (fun iv wr => ∃ (i : Nat) (Ac : Option Addr), i ≤ G ∧ iv = .int .i64 i ∧ OwnRows wr w.heap.size 43 (some ⟨gr, 0, none⟩) G G (rsM b S Y G i) ∧ Cur wr gC (P - i * S) (c3 - i * S) Ac ∧ (i < G → Ac = some ⟨b, i * S, none⟩) ∧ Own wr w.heap.size 5 (some ⟨b, 0, none⟩) P c3 Y ∧ Keep w wr) (fun iv _ => G - (intOf iv).toNat)
  case atStart => exact ⟨0, some ⟨b, 0, none⟩, by omega, rfl, R5.out, by simpa using C5.out, fun _ => by simp, O5.out, HK5.out⟩
  case round =>
    clear R5 C5 O5 HK5 mk
    obtain ⟨i, Ac, hi, rfl, hr, hcu, hac, ho, hk⟩ := hrel
    have f1 : (0 : Int) ≤ (i : Int) := Int.natCast_nonneg _
    by_cases hlt : i < G
    · have f2 : (i : Int) < (G : Int) := by omega
      obtain rfl := hac hlt
      obtain ⟨p, hp⟩ : ∃ p, i * S = p := ⟨_, rfl⟩
      obtain ⟨p', hp'⟩ : ∃ p', (i + 1) * S = p' := ⟨_, rfl⟩
      have hqP : p' ≤ P := by rw [← hp', ← HPN.out]; exact Nat.mul_le_mul_right S hlt
      have hpq : p + S = p' := by rw [← hp, ← hp', Nat.add_mul, Nat.one_mul]
      rw [hp] at hcu
      have hset := rsM_set (b := b) (S := S) (ys := Y) hlt
      rw [hp] at hset
      have HC := Lib.hid (hand_any gC S (P - p) (c3 - p) (some ⟨b, p, none⟩) (by omega) (by omega) wr hcu)
      obtain ⟨wq, hwq⟩ : ∃ wq, wr.setCell ⟨gC, 0, none⟩ (.slice (dropA (some ⟨b, p, none⟩) (c3 - p) S) (P - p - S) (c3 - p - S)) = wq := ⟨_, rfl⟩
      rw [hwq] at HC
      have hT : Turned (fun x => x = gC) wr wq := by rw [← hwq]; exact Turned.set wr _ _ rfl
      have hcq : Cur wq gC (P - p - S) (c3 - p - S) (dropA (some ⟨b, p, none⟩) (c3 - p) S) := by rw [← hwq]; exact hcu.put
      have hrq := hr.turned hT fun x hx hf => by have hx : some gr = some x := hx; injection hx with hx; have := HN.out; have hf : x = _ := hf; omega
      have hoq := ho.turned hT fun x hx hf => by have hx : some b = some x := hx; injection hx with hx; have := HN.out; have hf : x = _ := hf; omega
      have hkq := hT.keep hk fun x hx => by rw [hx]; exact HN.out.2.2
      have cr : wq.cell? ⟨gr, i, none⟩ = some (.slice none 0 0) := by
        have := World.ownsRow.cellAt hrq i (by omega)
        rw [this, List.getElem?_map, rsM, List.getElem?_append_right (by rw [rsL_len]; exact Nat.le_refl _), rsL_len, List.getElem?_replicate, if_pos (by omega)]
        rfl
      have fr : wq.frozen? ⟨gr, i, none⟩ = false := World.ownsRow.frozenAt hrq i
      have hTs : Turned (fun x => x = gr) wq (wq.setCell ⟨gr, i, none⟩ (.slice (some ⟨b, p, none⟩) S S)) := Turned.set wq _ _ rfl
      have hrs := hrq.stored (i := i) ⟨some ⟨b, p, none⟩, S, S, cutN S i Y⟩
      rw [hset] at hrs
      have HRS := Lib.hid hrs
      have HCS := Lib.hid (hcq.turned hTs (fun hf => by have := HN.out; have hf : gC = gr := hf; omega))
      have HOS := Lib.hid (hoq.turned hTs fun x hx hf => by have hx : some b = some x := hx; injection hx with hx; have := HN.out; have hf : x = _ := hf; omega)
      have HKS := Lib.hid (hTs.keep hkq fun x hx => by rw [hx]; have := HN.out; omega)
      have HP' := Lib.hid (And.intro hp' hpq)
      have hlast : Hid (i + 1 < G → dropA (some ⟨b, p, none⟩) (c3 - p) S = some ⟨b, (i + 1) * S, none⟩) := fun h2 => by
        have h3 : p' + S ≤ P := by
          have : (i + 1 + 1) * S ≤ G * S := Nat.mul_le_mul_right S h2
          rw [HPN.out, Nat.add_mul (i + 1), Nat.one_mul, hp'] at this; exact this
        rw [dropA_some _ _ _ _ (by omega), hp', hpq]
      clear hset hr hcu hac ho hk hrq hoq hkq hcq hT hTs hrs hp hp' hpq hwq
      go_wp2_with fail
      refine HC.out.mono ?_
      rintro e w6 ⟨rfl, rfl⟩
      go_wp2_with fail
      go_roundw
      case rel => exact ⟨i + 1, _, by omega, by go_num, HRS.out, by
        have h1 := HP'.out
        have h2 := HCS.out
        rw [h1.1, ← h1.2, Nat.sub_add_eq P p S, Nat.sub_add_eq c3 p S]; exact h2, hlast.out, HOS.out, HKS.out⟩
      case measure => simp [intOf]; omega
    · obtain rfl : i = G := by omega
      rw [rsM_all] at hr
      have HRR := Lib.hid hr
      have HO := Lib.hid ho
      have HK := Lib.hid hk
      clear hr ho hk hcu hac
      go_wp2_with fail
      go_ret2
      exact ⟨gr, b, c3, rfl, by rw [HYY.out]; exact ⟨HRR.out, HO.out⟩, HK.out⟩
end Go.Proofs.YtgelalbmhllccaaGreat
/- The document's own Chunks of layer 9: the walk. -/
namespace Go.Proofs.YtgelalbmhllccaaGreat
open Go.RowKit
set_option linter.unusedVariables false
set_option linter.unusedSimpArgs false
theorem chunk_count {room : Nat} {cuts xs : List Nat} : ∀ t, (chunkN room cuts xs t).1.length ≤ t
  | 0 => Nat.le_refl _
  | t + 1 => by
    have ih := chunk_count (room := room) (cuts := cuts) (xs := xs) t
    rw [chunkN_succ]
    by_cases h : isEnd room cuts (chunkN room cuts xs t).2 t
    · rw [if_pos h]
      show ((chunkN room cuts xs t).1 ++ [_]).length ≤ t + 1
      rw [List.length_append]; simp; omega
    · rw [if_neg h]; omega
end Go.Proofs.YtgelalbmhllccaaGreat
/- The document's own Chunks of layer 9: cuts that do not rise. -/
namespace Go.Proofs.YtgelalbmhllccaaGreat
open Go.RowKit
set_option linter.unusedVariables false
set_option linter.unusedSimpArgs false
theorem GoodC.next {n k : Nat} {l : List Int} (h : GoodC n l k) (x : Int) (hx : l[k]? = some x) (h1 : 0 ≤ x) (h2 : x ≤ (n : Int)) (h3 : ∀ y, 0 < k → l[k - 1]? = some y → y ≤ x) : GoodC n l (k + 1) := fun i z hi hz => by
  rcases Nat.lt_or_ge i k with h4 | h4
  · exact h i z h4 hz
  · obtain rfl : i = k := by omega
    rw [hx] at hz
    injection hz with hz
    subst hz
    exact ⟨h1, h2, h3⟩
end Go.Proofs.YtgelalbmhllccaaGreat
/- The landed pad: which cuts may be; chunks, step by step, plainly. -/
namespace Go.Proofs.YtgelalbmhllccaaGreat
open Go.RowKit
set_option linter.unusedVariables false
set_option linter.unusedSimpArgs false
section
variable {room : Nat} {cs xs : List Nat}
theorem chunk_stay {at_ : Nat} {C : List (List Nat)} (h : chunkN room cs xs (at_ + 1) = (C, at_)) : ∀ d, (∀ t, at_ < t → t < at_ + 1 + d → t ∉ cs ∧ t - at_ ≠ room) → chunkN room cs xs (at_ + 1 + d) = (C, at_)
  | 0, _ => h
  | d + 1, ht => by
    have ih := chunk_stay h d fun t h1 h2 => ht t h1 (by omega)
    rw [← Nat.add_assoc, chunkN_succ, ih, if_neg]
    intro he
    obtain ⟨h1, h2⟩ := ht (at_ + 1 + d) (by omega) (by omega)
    rcases he with he | he
    · exact h2 he
    · exact h1 he.2
theorem chunk_step {at_ m : Nat} {C : List (List Nat)} (h : chunkN room cs xs (at_ + 1) = (C, at_)) (h1 : 1 ≤ m) (h2 : m ≤ room) (hc : ∀ t, at_ < t → t < at_ + m → t ∉ cs) (he : m = room ∨ at_ + m ∈ cs) :
    chunkN room cs xs (at_ + m + 1) = (C ++ [pieceN xs at_ (at_ + m)], at_ + m) := by
  obtain ⟨d, rfl⟩ : ∃ d, m = d + 1 := ⟨m - 1, by omega⟩
  have hs := chunk_stay h d fun t h3 h4 => ⟨hc t h3 (by omega), by omega⟩
  have e : at_ + (d + 1) = at_ + 1 + d := by omega
  have hend : isEnd room cs at_ (at_ + 1 + d) := by
    rcases he with he | he
    · exact Or.inl (by omega)
    · exact Or.inr ⟨by omega, by rw [← e]; exact he⟩
  rw [e, chunkN_succ, hs, if_pos hend]
theorem chunk_rest {at_ n : Nat} {C : List (List Nat)} (h : chunkN room cs xs (at_ + 1) = (C, at_)) (ha : at_ ≤ n) (hr : n - at_ < room) (hc : ∀ t, at_ < t → t ≤ n → t ∉ cs) : chunkN room cs xs (n + 1) = (C, at_) := by
  have := chunk_stay h (n - at_) fun t h1 h2 => ⟨hc t h1 (by omega), by omega⟩
  rwa [show at_ + 1 + (n - at_) = n + 1 by omega] at this
theorem chunk_start (h : 1 ≤ room) : chunkN room cs xs (0 + 1) = ([], 0) := by
  rw [chunkN_succ, if_neg]
  · rfl
  · intro he
    rcases he with he | he
    · have he : 0 - 0 = room := he
      omega
    · exact absurd he.1 (Nat.not_lt_zero _)
end
def CutsTold (n m : Nat) (l : List Int) (e : Ending) : Prop := ∃ q, e = .returned (.bool q) ∧ (q = true ↔ GoodC n l m)
theorem CutsTold.yes {n m : Nat} {l : List Int} (h : GoodC n l m) : CutsTold n m l (.returned (.bool true)) := ⟨true, rfl, fun _ => h, fun _ => rfl⟩
theorem CutsTold.no {n m : Nat} {l : List Int} (h : ¬ GoodC n l m) : CutsTold n m l (.returned (.bool false)) := ⟨false, rfl, (fun h2 => absurd h2 (by decide)), fun h2 => absurd h2 h⟩
set_option maxRecDepth 100000 in
set_option maxHeartbeats 1000000 in
theorem arecuts_any (n m : Nat) (hn : n ≤ 140737488351232) (hm : m ≤ 140737488351232) (A' : Option Addr) (c' : Nat) (l : List Int) (w : World) (h' : IntsAt w w.heap.size A' m l) :
    Calls Tryz.prog 136 #[.slice A' m c', .int .i64 (n : Int)] w fun e w' => CutsTold n m l e ∧ w = w' := by
  have HI := Lib.hid h'
  have HML : Hid (l.length = m) := h'.1
  clear h'
  go_enter Tryz.func136, Tryz.ntmps136
  go_wp2_with fail
  go_loop [5, 10] (fun av iv => ∃ (i : Nat) (a : Int), i ≤ m ∧ iv = .int .i64 i ∧ av = .int .i64 a ∧ 0 ≤ a ∧ GoodC n l i ∧ (i = 0 → a = 0) ∧ (0 < i → l[i - 1]? = some a)) (fun _ iv => m - (intOf iv).toNat)
  case atStart => exact ⟨0, 0, by omega, rfl, rfl, by omega, fun i z hi => by omega, fun _ => rfl, fun h => by omega⟩
  case round =>
    obtain ⟨i, a, hi, rfl, rfl, ha, hg, h0, hl⟩ := hrel
    have HG := Lib.hid hg
    have H0 := Lib.hid h0
    have HL := Lib.hid hl
    have f1 : (0 : Int) ≤ (i : Int) := Int.natCast_nonneg _
    clear hg h0 hl
    by_cases hlt : i < m
    · have f2 : (i : Int) < (m : Int) := by omega
      obtain ⟨b, off, rfl, hb, hcell⟩ := HI.out.2 (by omega)
      have hx := List.getElem?_eq_getElem (l := l) (i := i) (by rw [HML.out]; exact hlt)
      obtain ⟨x, hxx⟩ : ∃ x, l[i]'(by rw [HML.out]; exact hlt) = x := ⟨_, rfl⟩
      rw [hxx] at hx
      have c1 := hcell i x hx
      have HX := Lib.hid hx
      clear hx hxx hcell
      by_cases h1 : x < a
      · have d1 : decide (x < a) = true := decide_eq_true h1
        have hbad : Hid (¬ GoodC n l m) := fun hG => by
          have h3 := hG i x hlt HX.out
          rcases Nat.eq_zero_or_pos i with e | e
          · have := H0.out e; omega
          · have := h3.2.2 a e (HL.out e); omega
        go_wp2_with fail
        go_ret
        exact ⟨.no hbad.out, rfl⟩
      · have d1 : decide (x < a) = false := decide_eq_false h1
        by_cases h2 : (n : Int) < x
        · have d2 : decide ((n : Int) < x) = true := decide_eq_true h2
          have hbad : Hid (¬ GoodC n l m) := fun hG => by
            have h3 := hG i x hlt HX.out
            omega
          go_wp2_with fail
          go_ret
          exact ⟨.no hbad.out, rfl⟩
        · have d2 : decide ((n : Int) < x) = false := decide_eq_false h2
          have HN : Hid (GoodC n l (i + 1)) := HG.out.next x HX.out (by omega) (by omega) fun y hy hy2 => by
            have := HL.out hy
            rw [this] at hy2; injection hy2 with hy2; omega
          have hx0 : 0 ≤ x := by omega
          go_wp2_with fail
          go_round
          case rel => exact ⟨i + 1, x, by omega, by go_num, rfl, hx0, HN.out, fun h => by omega, fun _ => by rw [Nat.add_sub_cancel]; exact HX.out⟩
          case measure => simp [intOf]; omega
    · obtain rfl : i = m := by omega
      go_wp2_with fail
      go_ret
      exact ⟨.yes HG.out, rfl⟩
end Go.Proofs.YtgelalbmhllccaaGreat
/- The landed pad: a chunk more. -/
namespace Go.Proofs.YtgelalbmhllccaaGreat
open Go.RowKit
set_option linter.unusedVariables false
set_option linter.unusedSimpArgs false
/-- A variable of its own. -/
def Var1 (w : World) (g : Nat) (v : Value) (t : TypeId) : Prop := w.heap[g]? = some (.cells #[v] t (0, 0))
namespace Var1
variable {w w' : World} {g : Nat} {v : Value} {t : TypeId}
theorem cell (h : Var1 w g v t) : w.cell? ⟨g, 0, none⟩ = some v := cell_of_one h
theorem free (h : Var1 w g v t) : w.frozen? ⟨g, 0, none⟩ = false := free_of_one h
theorem put {u : Value} (h : Var1 w g v t) : Var1 (w.setCell ⟨g, 0, none⟩ u) g u t := one_setCell h
theorem lt (h : Var1 w g v t) : g < w.heap.size := lt_of_block h
theorem turned {F : Nat → Prop} (h : Var1 w g v t) (k : Turned F w w') (hn : ¬ F g) : Var1 w' g v t := (k.block g (lt_of_block h) hn).trans h
end Var1
/-- The places of Chunks' own variables. -/
structure ChK (w : World) (B1 B2 B3 gC b base N cN : Nat) : Prop where
  o1 : w.heap.size ≤ B1
  o2 : B1 < gC
  o3 : gC < B2
  o4 : B2 < B3
  o5 : B3 < base
  ob : 0 < N → B1 < b ∧ b < gC
  oc : N ≤ cN ∧ N ≤ 100000
/-- All but the chunks: the function that hands out, the place, what is left, the bytes. -/
structure ChB (w : World) (B2 B3 gC b N cN : Nat) (ys : List Nat) (wr : World) (at_ cp : Nat) : Prop where
  fn : Var1 wr B2 (.func (.func 154) #[] #[.pointer (some ⟨gC, 0, none⟩)]) 203
  pos : Var1 wr B3 (.int .i64 (at_ : Int)) 3
  cur : ∃ A, Cur wr gC (N - cp) (cN - cp) A ∧ (cp < N → A = some ⟨b, cp, none⟩)
  str : ys.length = N ∧ AllB ys ∧ ∀ i, i < N → wr.cell? ⟨b, i, none⟩ = some (.int .u8 ((ys.getD i 0 : Nat) : Int))
  kp : Keep w wr
/-- The chunks so far. -/
structure ChR (wr : World) (base b N : Nat) (A : Option Addr) (k c : Nat) (rs : List RowV) : Prop where
  own : OwnRows wr base 43 A k c rs
  lie : ∀ r ∈ rs, LiesIn wr (fun x => x = b ∧ 0 < N) r
section
variable {w wr w' : World} {B1 B2 B3 gC b base N cN at_ cp k c : Nat} {ys : List Nat} {A : Option Addr} {rs : List RowV} {F : Nat → Prop}
theorem ChB.turned (h : ChB w B2 B3 gC b N cN ys wr at_ cp) (t : Turned F wr w') (n2 : ¬ F B2) (n3 : ¬ F B3) (nC : ¬ F gC) (nb : 0 < N → ¬ F b) (nw : ∀ x, F x → w.heap.size ≤ x) : ChB w B2 B3 gC b N cN ys w' at_ cp :=
  ⟨h.fn.turned t n2, h.pos.turned t n3, by
    obtain ⟨A, h1, h2⟩ := h.cur
    exact ⟨A, h1.turned t nC, h2⟩, ⟨h.str.1, h.str.2.1, fun i hi => t.cell (h.str.2.2 i hi) (nb (by omega))⟩, t.keep h.kp nw⟩
theorem ChR.turned (h : ChR wr base b N A k c rs) (t : Turned F wr w') (no : ∀ x, (Value.slice A k c).ownBlock = some x → ¬ F x) (nb : 0 < N → ¬ F b) : ChR w' base b N A k c rs :=
  ⟨OwnRows.turned h.own t no, fun r hr => (h.lie r hr).turned t fun x hx => by rw [hx.1]; exact nb hx.2⟩
/-- One place is written that is none of the others. -/
theorem ChB.set (K : ChK w B1 B2 B3 gC b base N cN) (h : ChB w B2 B3 gC b N cN ys wr at_ cp) (v : Value) : ChB w B2 B3 gC b N cN ys (wr.setCell ⟨B1, 0, none⟩ v) at_ cp := by
  have h1 := K.o1; have h2 := K.o2; have h3 := K.o3; have h4 := K.o4; have h5 := K.ob
  exact h.turned (F := fun x => x = B1) (Turned.set wr _ _ rfl) (fun e => by have e : B2 = B1 := e; omega) (fun e => by have e : B3 = B1 := e; omega) (fun e => by have e : gC = B1 := e; omega) (fun hp e => by have e : b = B1 := e; have := h5 hp; omega) (fun x e => by have e : x = B1 := e; omega)
theorem ChB.moved (K : ChK w B1 B2 B3 gC b base N cN) (h : ChB w B2 B3 gC b N cN ys wr at_ cp) (z : Nat) : ChB w B2 B3 gC b N cN ys (wr.setCell ⟨B3, 0, none⟩ (.int .i64 (z : Int))) z cp := by
  have h1 := K.o1; have h2 := K.o2; have h3 := K.o3; have h4 := K.o4; have h5 := K.ob
  have t : Turned (fun x => x = B3) wr (wr.setCell ⟨B3, 0, none⟩ (.int .i64 (z : Int))) := Turned.set wr _ _ rfl
  exact ⟨h.fn.turned t (fun e => by have e : B2 = B3 := e; omega), h.pos.put, by
    obtain ⟨A, a1, a2⟩ := h.cur
    exact ⟨A, a1.turned t (fun e => by have e : gC = B3 := e; omega), a2⟩, ⟨h.str.1, h.str.2.1, fun i hi => t.cell (h.str.2.2 i hi) (fun e => by have e : b = B3 := e; have := h5 (by omega); omega)⟩, t.keep h.kp fun x e => by have e : x = B3 := e; omega⟩
theorem ChB.handed (K : ChK w B1 B2 B3 gC b base N cN) (h : ChB w B2 B3 gC b N cN ys wr at_ cp) {n m c' : Nat} (hn : cp + n ≤ N) (hm : N - cp - n = m) (hc : cN - cp - n = c') {A' : Option Addr} (hA : cp < N → A' = some ⟨b, cp, none⟩) (hz : 0 < n → cp < N) : ChB w B2 B3 gC b N cN ys (wr.setCell ⟨gC, 0, none⟩ (.slice (dropA A' (cN - cp) n) m c')) at_ (cp + n) := by
  have h1 := K.o1; have h2 := K.o2; have h3 := K.o3; have h4 := K.o4; have h5 := K.ob; have h6 := K.oc
  subst hm; subst hc
  have t : Turned (fun x => x = gC) wr (wr.setCell ⟨gC, 0, none⟩ (.slice (dropA A' (cN - cp) n) (N - cp - n) (cN - cp - n))) := Turned.set wr _ _ rfl
  refine ⟨h.fn.turned t (fun e => by have e : B2 = gC := e; omega), h.pos.turned t (fun e => by have e : B3 = gC := e; omega), ?_, ⟨h.str.1, h.str.2.1, fun i hi => t.cell (h.str.2.2 i hi) (fun e => by have e : b = gC := e; have := h5 (by omega); omega)⟩, t.keep h.kp fun x e => by have e : x = gC := e; omega⟩
  obtain ⟨A, a1, a2⟩ := h.cur
  refine ⟨dropA A' (cN - cp) n, ?_, fun hlt => ?_⟩
  · have := a1.put (A' := dropA A' (cN - cp) n) (m' := N - cp - n) (c' := cN - cp - n)
    rw [Nat.sub_add_eq, Nat.sub_add_eq]; exact this
  · rw [hA (by omega)]
    exact dropA_some b cp (cN - cp) n (by omega)
theorem ChR.piece (h : ChB w B2 B3 gC b N cN ys wr at_ cp) {n : Nat} (h1 : 1 ≤ n) (hn : cp + n ≤ N) : LiesIn wr (fun x => x = b ∧ 0 < N) ⟨some ⟨b, cp, none⟩, n, n, pieceN ys cp (cp + n)⟩ := by
  obtain ⟨s1, s2, s3⟩ := h.str
  refine ⟨?_, fun x hx => s2 x (List.mem_of_mem_drop (List.mem_of_mem_take hx)), Nat.le_refl _, fun _ => ⟨b, cp, rfl, ⟨rfl, by omega⟩, fun i hi => ?_⟩⟩
  · show (pieceN ys cp (cp + n)).length = n
    rw [piece_len (by omega) (by omega)]; omega
  · have hi : i < n := hi
    rw [s3 (cp + i) (by omega)]
    show _ = some (Value.int .u8 (((pieceN ys cp (cp + n)).getD i 0 : Nat) : Int))
    rw [pieceN, Nat.add_sub_cancel_left, List.getD_eq_getElem?_getD, List.getD_eq_getElem?_getD, List.getElem?_take, if_pos hi, List.getElem?_drop]
end
/-- What stands while Chunks works: so many bytes are cut. -/
def ChSt (w : World) (B1 B2 B3 gC b base N cN : Nat) (ys : List Nat) (wr : World) (at_ : Nat) (C : List (List Nat)) : Prop :=
  ChB w B2 B3 gC b N cN ys wr at_ at_ ∧ at_ ≤ N ∧ C.length ≤ at_ ∧ base ≤ wr.heap.size ∧ ∃ A k c rs, Var1 wr B1 (.slice A k c) 40 ∧ ChR wr base b N A k c rs ∧ rowsXs rs = C
set_option maxRecDepth 100000 in
set_option maxHeartbeats 4000000 in
theorem chunk_any (w wr : World) (B1 B2 B3 gC b base N cN at_ n : Nat) (ys : List Nat) (C : List (List Nat)) (K : ChK w B1 B2 B3 gC b base N cN) (h : ChSt w B1 B2 B3 gC b base N cN ys wr at_ C) (h1 : 1 ≤ n) (hn : at_ + n ≤ N) :
    Calls Tryz.prog 138 #[.int .i64 (n : Int), .pointer (some ⟨B1, 0, none⟩), .pointer (some ⟨B2, 0, none⟩), .pointer (some ⟨B3, 0, none⟩)] wr fun e w' => e = .returned (.tuple #[]) ∧ ChSt w B1 B2 B3 gC b base N cN ys w' (at_ + n) (C ++ [pieceN ys at_ (at_ + n)]) := by
  obtain ⟨hb, hat, hlen, hbase, A, k, c, rs, hv, hr, hx⟩ := h
  have KK := Lib.hid K
  have hkl : k ≤ 100000 := by
    have e1 := hr.own.length
    have e2 : C.length = rs.length := by rw [← hx]; simp [rowsXs]
    have := K.oc.2
    omega
  have hnb : n ≤ 100000 := by have := K.oc.2; omega
  have hab : at_ ≤ 100000 := by have := K.oc.2; omega
  obtain ⟨Ac, hcur, hAc⟩ := hb.cur
  have hAc := hAc (by omega)
  subst hAc
  obtain ⟨w0, hw0⟩ : ∃ w0, wr.drew = w0 := ⟨_, rfl⟩
  have k0 : Turned (fun _ => False) wr w0 := by rw [← hw0]; exact Turned.of_keep (Keep.drew (Keep.refl wr))
  have HB0 := Lib.hid (hb.turned k0 (fun e => e) (fun e => e) (fun e => e) (fun _ e => e) (fun x e => e.elim))
  have HR0 := Lib.hid (hr.turned k0 (fun x _ e => e) (fun _ e => e))
  have HV0 := Lib.hid (hv.turned k0 (fun e => e))
  have HC0 := Lib.hid (hcur.turned k0 (fun e => e))
  have HS0 : Hid (base ≤ w0.heap.size) := Nat.le_trans hbase k0.size
  have c1 := HV0.out.cell
  have c2 := HB0.out.fn.cell
  have HX := Lib.hid hx
  have H1 := Lib.hid h1
  obtain ⟨m', hm'⟩ : ∃ m', N - at_ - n = m' := ⟨_, rfl⟩
  obtain ⟨c', hc'⟩ : ∃ c', cN - at_ - n = c' := ⟨_, rfl⟩
  have HH := Lib.hid (hand_any gC n (N - at_) (cN - at_) (some ⟨b, at_, none⟩) (by omega) (by have := K.oc.1; omega) w0 HC0.out)
  obtain ⟨w1, hw1⟩ : ∃ w1, w0.setCell ⟨gC, 0, none⟩ (.slice (dropA (some ⟨b, at_, none⟩) (cN - at_) n) (N - at_ - n) (cN - at_ - n)) = w1 := ⟨_, rfl⟩
  rw [hw1] at HH
  have T1 : Hid (Turned (fun x => x = gC) w0 w1) := by show Turned _ _ _; rw [← hw1]; exact Turned.set w0 _ _ rfl
  have HB1 : Hid (ChB w B2 B3 gC b N cN ys w1 at_ (at_ + n)) := by
    show ChB _ _ _ _ _ _ _ _ _ _ _
    rw [← hw1]
    exact HB0.out.handed K hn rfl rfl (fun _ => rfl) (fun _ => by omega)
  have HR1 : Hid (ChR w1 base b N A k c rs) := HR0.out.turned T1.out (fun x hx e => by
    have e : x = gC := e
    have := HR0.out.own.rowLe x hx
    have := KK.out.o3; have := KK.out.o4; have := KK.out.o5; omega) (fun hp e => by
    have e : b = gC := e
    have := KK.out.ob hp; omega)
  have HV1 : Hid (Var1 w1 B1 (.slice A k c) 40) := HV0.out.turned T1.out (fun e => by have e : B1 = gC := e; have := KK.out.o2; omega)
  have HS1 : Hid (base ≤ w1.heap.size) := Nat.le_trans HS0.out T1.out.size
  have HL1 := Lib.hid (ChR.piece HB0.out h1 hn)
  have HL1' : Hid (LiesIn w1 (fun x => x = b ∧ 0 < N) ⟨some ⟨b, at_, none⟩, n, n, pieceN ys at_ (at_ + n)⟩) := HL1.out.turned T1.out fun x hx e => by
    have e : x = gC := e
    have := KK.out.ob hx.2; omega
  have d1 := HV1.out.cell
  have d2 := HB1.out.fn.cell
  obtain ⟨w2, hw2⟩ : ∃ w2, w1.alloc (.cells #[.slice (some ⟨b, at_, none⟩) n n] 43) = w2 := ⟨_, rfl⟩
  have T2 : Hid (Turned (fun _ => False) w1 w2) := by show Turned _ _ _; rw [← hw2]; exact Turned.of_keep ((Keep.refl w1).alloc _ _)
  have HB2 := Lib.hid (HB1.out.turned T2.out (fun e => e) (fun e => e) (fun e => e) (fun _ e => e) (fun x e => e.elim))
  have HR2 := Lib.hid (HR1.out.turned T2.out (fun x _ e => e) (fun _ e => e))
  have HV2 := Lib.hid (HV1.out.turned T2.out (fun e => e))
  have HL2 := Lib.hid (HL1'.out.turned T2.out fun x _ e => e)
  have HS2 : Hid (base ≤ w2.heap.size) := Nat.le_trans HS1.out T2.out.size
  obtain ⟨g2, hg2⟩ : ∃ g2, w1.heap.size = g2 := ⟨_, rfl⟩
  have l2 : w2.cell? ⟨g2, 0, none⟩ = some (.slice (some ⟨b, at_, none⟩) n n) := by rw [← hw2, ← hg2, World.cell?_alloc_new]; rfl
  have e1 := HV2.out.cell
  have e2 := HB2.out.fn.cell
  have HW2 := Lib.hid (And.intro hw2 hg2)
  have hAp : ∀ (A2 : Option Addr) (c2 : Nat) (w3 : World), OwnRows w3 base 43 A2 (k + 1) c2 (rs ++ [⟨some ⟨b, at_, none⟩, n, n, pieceN ys at_ (at_ + n)⟩]) → w2.grownBy w3 (Value.slice A k c).ownBlock → ((w3.setCell ⟨B1, 0, none⟩ (.slice A2 (k + 1) c2)).cell? ⟨B2, 0, none⟩ = some (.func (.func 154) #[] #[.pointer (some ⟨gC, 0, none⟩)])) ∧ w3.cell? ⟨B2, 0, none⟩ = some (.func (.func 154) #[] #[.pointer (some ⟨gC, 0, none⟩)]) ∧ Hid (Var1 w3 B1 (.slice A k c) 40) ∧ (w3.setCell ⟨B1, 0, none⟩ (.slice A2 (k + 1) c2)).cell? ⟨B3, 0, none⟩ = some (.int .i64 (at_ : Int)) ∧ (w3.setCell ⟨B1, 0, none⟩ (.slice A2 (k + 1) c2)).frozen? ⟨B3, 0, none⟩ = false ∧
      Hid (ChSt w B1 B2 B3 gC b base N cN ys ((w3.setCell ⟨B1, 0, none⟩ (.slice A2 (k + 1) c2)).setCell ⟨B3, 0, none⟩ (.int .i64 (((at_ + n : Nat)) : Int))) (at_ + n) (C ++ [pieceN ys at_ (at_ + n)])) := fun A2 c2 w3 h3 g3 => by
    have t3 : Turned (fun x => (Value.slice A k c).ownBlock = some x) w2 w3 := Turned.of_grown (F := fun x => (Value.slice A k c).ownBlock = some x) g3 fun i e => e
    have hge : ∀ x, (Value.slice A k c).ownBlock = some x → base ≤ x := fun x hx => HR2.out.own.rowLe x hx
    have o1 := KK.out.o1; have o2 := KK.out.o2; have o3 := KK.out.o3; have o4 := KK.out.o4; have o5 := KK.out.o5
    have hb3 := HB2.out.turned t3 (fun e => by have := hge B2 e; omega) (fun e => by have := hge B3 e; omega) (fun e => by have := hge gC e; omega) (fun hp e => by have := hge b e; have := KK.out.ob hp; omega) (fun x e => by have := hge x e; omega)
    have hv3 := HV2.out.turned t3 (fun e => by have := hge B1 e; omega)
    have hr3 : ChR w3 base b N A2 (k + 1) c2 (rs ++ [⟨some ⟨b, at_, none⟩, n, n, pieceN ys at_ (at_ + n)⟩]) := ⟨h3, fun r hr => by
      rcases List.mem_append.1 hr with hr | hr
      · exact (HR2.out.lie r hr).turned t3 fun x hx e => by have := hge x e; have h6 := KK.out.ob hx.2; have h7 := hx.1; omega
      · rw [List.mem_singleton] at hr; subst hr
        exact HL2.out.turned t3 fun x hx e => by have := hge x e; have h6 := KK.out.ob hx.2; have h7 := hx.1; omega⟩
    have hb4 := hb3.set KK.out (.slice A2 (k + 1) c2)
    have t4 : Turned (fun x => x = B1) w3 (w3.setCell ⟨B1, 0, none⟩ (.slice A2 (k + 1) c2)) := Turned.set w3 _ _ rfl
    have hv4 : Var1 (w3.setCell ⟨B1, 0, none⟩ (.slice A2 (k + 1) c2)) B1 (.slice A2 (k + 1) c2) 40 := hv3.put
    have hr4 := hr3.turned t4 (fun x hx e => by have e : x = B1 := e; have := h3.rowLe x hx; omega) (fun hp e => by have e : b = B1 := e; have := KK.out.ob hp; omega)
    have hb5 := hb4.moved KK.out (at_ + n)
    have t5 : Turned (fun x => x = B3) (w3.setCell ⟨B1, 0, none⟩ (.slice A2 (k + 1) c2)) ((w3.setCell ⟨B1, 0, none⟩ (.slice A2 (k + 1) c2)).setCell ⟨B3, 0, none⟩ (.int .i64 (((at_ + n : Nat)) : Int))) := Turned.set _ _ _ rfl
    have hv5 := hv4.turned t5 (fun e => by have e : B1 = B3 := e; omega)
    have hr5 := hr4.turned t5 (fun x hx e => by have e : x = B3 := e; have := h3.rowLe x hx; omega) (fun hp e => by have e : b = B3 := e; have := KK.out.ob hp; omega)
    refine ⟨hb4.fn.cell, hb3.fn.cell, hv3, hb4.pos.cell, hb4.pos.free, hb5, hn, by rw [List.length_append]; have := H1.out; simp; omega, ?_, A2, k + 1, c2, _, hv5, hr5, by rw [← HX.out]; simp [rowsXs]⟩
    exact Nat.le_trans HS2.out (Nat.le_trans t3.size (Nat.le_trans t4.size t5.size))
  have HAP := Lib.hid hAp
  have wr1 : IntKind.i64.wrap ((at_ : Int) + (n : Int)) = ((at_ + n : Nat) : Int) := by rw [show (at_ : Int) + (n : Int) = ((at_ + n : Nat) : Int) by omega]; exact IntWalk.i64_in _ (by omega)
  have HO2 := Lib.hid HR2.out.own
  have HW0 := Lib.hid hw0
  clear hb hr hv hcur hx hAp hw1 hw2 hg2 hw0 k0 hm' hc'
  go_enter Tryz.func138, Tryz.ntmps138
  go_wp2_with fail
  refine wp_region_noPanic ?_
  refine wp_region_held_drew (S := fun wz => wz.cell? ⟨B2, 0, none⟩ = some (.func (.func 154) #[] #[.pointer (some ⟨gC, 0, none⟩)])) (by kernel_rfl) (by rw [HW0.out]; exact c2) (fun hHeld => ?_)
  rw [HW0.out] at hHeld ⊢
  refine wpAnyH_take (i := 1) (v := ?_) rfl (by kernel_rfl) (by kernel_rfl) (by kernel_rfl) (fun _ _ _ h => h) (Or.inl ⟨by rfl, ?_⟩) hHeld ?_
  rotate_left
  · intro wq hSw
    have q0 := hSw
    go_simp
    all_goals with_reducible rfl
  try simp only [Act.put, List.getElem_toArray, List.getElem_cons_succ, List.getElem_cons_zero, List.setIfInBounds_toArray, List.set_cons_zero, List.set_cons_succ]
  refine wpAnyH_take (i := 2) (v := ?_) rfl (by kernel_rfl) (by kernel_rfl) (by kernel_rfl) (fun _ _ _ h => h) (Or.inl ⟨by rfl, ?_⟩) hHeld ?_
  rotate_left
  · intro wq hSw
    go_simp
    all_goals with_reducible rfl
  try simp only [Act.put, List.getElem_toArray, List.getElem_cons_succ, List.getElem_cons_zero, List.setIfInBounds_toArray, List.set_cons_zero, List.set_cons_succ]
  refine wpAnyH_ready (rs := [0, 3]) (by kernel_rfl) (by simp) ?_
  refine AllReadyH.cons rfl (fun K hK => ?_) (AllReadyH.cons rfl (fun K hK => ?_) AllReadyH.nil)
  · go_simp
    refine hK.out _ _ hHeld (fun hHeld => ?_)
    clear hK K
    try simp only [Act.put, List.getElem_toArray, List.getElem_cons_succ, List.getElem_cons_zero, List.setIfInBounds_toArray, List.set_cons_zero, List.set_cons_succ]
    refine wpAnyH_ready (rs := [3]) (by kernel_rfl) (by simp) ?_
    refine AllReadyH.cons rfl (fun K hK => ?_) AllReadyH.nil
    go_simp
    refine HH.out.mono ?_
    rintro e w1' ⟨rfl, rfl⟩
    refine hK.out _ _ d2 (fun hHeld => ?_)
    clear hK K c1 c2
    try simp only [Act.put, List.getElem_toArray, List.getElem_cons_succ, List.getElem_cons_zero, List.setIfInBounds_toArray, List.set_cons_zero, List.set_cons_succ]
    refine wpAnyH_ready (rs := [4]) (by kernel_rfl) (by simp) ?_
    refine AllReadyH.cons rfl (fun K hK => ?_) AllReadyH.nil
    go_simp
    rw [HW2.out.1, HW2.out.2]
    refine hK.out _ _ e2 (fun hHeld => ?_)
    clear hK K
    try simp only [Act.put, List.getElem_toArray, List.getElem_cons_succ, List.getElem_cons_zero, List.setIfInBounds_toArray, List.set_cons_zero, List.set_cons_succ]
    refine wpAnyH_ready (rs := [5]) (by kernel_rfl) (by simp) ?_
    refine AllReadyH.cons rfl (fun K hK => ?_) AllReadyH.nil
    refine wp_append_row _ _ 40 rfl ⟨some ⟨b, at_, none⟩, n, n, pieceN ys at_ (at_ + n)⟩ Tryz.underlying40 infoRow rfl HO2.out rfl l2 (by omega) HS2.out ?_
    intro A2 c2 w3 h3 g3 _
    obtain ⟨y1, y2, y3, y4, y5, y6⟩ := HAP.out A2 c2 w3 h3 g3
    refine hK.out _ _ y2 (fun hHeld => ?_)
    clear hK K h3 g3
    try simp only [Act.put, List.getElem_toArray, List.getElem_cons_succ, List.getElem_cons_zero, List.setIfInBounds_toArray, List.set_cons_zero, List.set_cons_succ]
    have z1 := y3.out.cell
    have z2 := y3.out.free
    refine wpAnyH_ready (rs := [6]) (by kernel_rfl) (by simp) ?_
    refine AllReadyH.cons rfl (fun K hK => ?_) AllReadyH.nil
    go_simp
    refine hK.out _ _ y1 (fun hHeld => ?_)
    clear hK K z1 z2
    try simp only [Act.put, List.getElem_toArray, List.getElem_cons_succ, List.getElem_cons_zero, List.setIfInBounds_toArray, List.set_cons_zero, List.set_cons_succ]
    refine wpAnyH_done (by kernel_rfl) ?_ _
    refine NoPanic.normal ?_
    clear hHeld
    generalize w3.setCell ⟨B1, 0, none⟩ (.slice A2 (k + 1) c2) = w4 at *
    go_wp2_with fail
    go_end0
    exact ⟨rfl, y6.out⟩
  · go_simp
    refine HH.out.mono ?_
    rintro e w1' ⟨rfl, rfl⟩
    refine hK.out _ _ d2 (fun hHeld => ?_)
    clear hK K c1 c2
    try simp only [Act.put, List.getElem_toArray, List.getElem_cons_succ, List.getElem_cons_zero, List.setIfInBounds_toArray, List.set_cons_zero, List.set_cons_succ]
    refine wpAnyH_ready (rs := [0, 4]) (by kernel_rfl) (by simp) ?_
    refine AllReadyH.cons rfl (fun K hK => ?_) (AllReadyH.cons rfl (fun K hK => ?_) AllReadyH.nil)
    · go_simp
      refine hK.out _ _ hHeld (fun hHeld => ?_)
      clear hK K
      try simp only [Act.put, List.getElem_toArray, List.getElem_cons_succ, List.getElem_cons_zero, List.setIfInBounds_toArray, List.set_cons_zero, List.set_cons_succ]
      refine wpAnyH_ready (rs := [4]) (by kernel_rfl) (by simp) ?_
      refine AllReadyH.cons rfl (fun K hK => ?_) AllReadyH.nil
      go_simp
      rw [HW2.out.1, HW2.out.2]
      refine hK.out _ _ e2 (fun hHeld => ?_)
      clear hK K
      try simp only [Act.put, List.getElem_toArray, List.getElem_cons_succ, List.getElem_cons_zero, List.setIfInBounds_toArray, List.set_cons_zero, List.set_cons_succ]
      refine wpAnyH_ready (rs := [5]) (by kernel_rfl) (by simp) ?_
      refine AllReadyH.cons rfl (fun K hK => ?_) AllReadyH.nil
      refine wp_append_row _ _ 40 rfl ⟨some ⟨b, at_, none⟩, n, n, pieceN ys at_ (at_ + n)⟩ Tryz.underlying40 infoRow rfl HO2.out rfl l2 (by omega) HS2.out ?_
      intro A2 c2 w3 h3 g3 _
      obtain ⟨y1, y2, y3, y4, y5, y6⟩ := HAP.out A2 c2 w3 h3 g3
      refine hK.out _ _ y2 (fun hHeld => ?_)
      clear hK K h3 g3
      try simp only [Act.put, List.getElem_toArray, List.getElem_cons_succ, List.getElem_cons_zero, List.setIfInBounds_toArray, List.set_cons_zero, List.set_cons_succ]
      have z1 := y3.out.cell
      have z2 := y3.out.free
      refine wpAnyH_ready (rs := [6]) (by kernel_rfl) (by simp) ?_
      refine AllReadyH.cons rfl (fun K hK => ?_) AllReadyH.nil
      go_simp
      refine hK.out _ _ y1 (fun hHeld => ?_)
      clear hK K z1 z2
      try simp only [Act.put, List.getElem_toArray, List.getElem_cons_succ, List.getElem_cons_zero, List.setIfInBounds_toArray, List.set_cons_zero, List.set_cons_succ]
      refine wpAnyH_done (by kernel_rfl) ?_ _
      refine NoPanic.normal ?_
      clear hHeld
      generalize w3.setCell ⟨B1, 0, none⟩ (.slice A2 (k + 1) c2) = w4 at *
      go_wp2_with fail
      go_end0
      exact ⟨rfl, y6.out⟩
    · go_simp
      rw [HW2.out.1, HW2.out.2]
      refine hK.out _ _ e2 (fun hHeld => ?_)
      clear hK K
      try simp only [Act.put, List.getElem_toArray, List.getElem_cons_succ, List.getElem_cons_zero, List.setIfInBounds_toArray, List.set_cons_zero, List.set_cons_succ]
      refine wpAnyH_ready (rs := [0]) (by kernel_rfl) (by simp) ?_
      refine AllReadyH.cons rfl (fun K hK => ?_) AllReadyH.nil
      go_simp
      refine hK.out _ _ hHeld (fun hHeld => ?_)
      clear hK K
      try simp only [Act.put, List.getElem_toArray, List.getElem_cons_succ, List.getElem_cons_zero, List.setIfInBounds_toArray, List.set_cons_zero, List.set_cons_succ]
      refine wpAnyH_ready (rs := [5]) (by kernel_rfl) (by simp) ?_
      refine AllReadyH.cons rfl (fun K hK => ?_) AllReadyH.nil
      refine wp_append_row _ _ 40 rfl ⟨some ⟨b, at_, none⟩, n, n, pieceN ys at_ (at_ + n)⟩ Tryz.underlying40 infoRow rfl HO2.out rfl l2 (by omega) HS2.out ?_
      intro A2 c2 w3 h3 g3 _
      obtain ⟨y1, y2, y3, y4, y5, y6⟩ := HAP.out A2 c2 w3 h3 g3
      refine hK.out _ _ y2 (fun hHeld => ?_)
      clear hK K h3 g3
      try simp only [Act.put, List.getElem_toArray, List.getElem_cons_succ, List.getElem_cons_zero, List.setIfInBounds_toArray, List.set_cons_zero, List.set_cons_succ]
      have z1 := y3.out.cell
      have z2 := y3.out.free
      refine wpAnyH_ready (rs := [6]) (by kernel_rfl) (by simp) ?_
      refine AllReadyH.cons rfl (fun K hK => ?_) AllReadyH.nil
      go_simp
      refine hK.out _ _ y1 (fun hHeld => ?_)
      clear hK K z1 z2
      try simp only [Act.put, List.getElem_toArray, List.getElem_cons_succ, List.getElem_cons_zero, List.setIfInBounds_toArray, List.set_cons_zero, List.set_cons_succ]
      refine wpAnyH_done (by kernel_rfl) ?_ _
      refine NoPanic.normal ?_
      clear hHeld
      generalize w3.setCell ⟨B1, 0, none⟩ (.slice A2 (k + 1) c2) = w4 at *
      go_wp2_with fail
      go_end0
      exact ⟨rfl, y6.out⟩
end Go.Proofs.YtgelalbmhllccaaGreat
