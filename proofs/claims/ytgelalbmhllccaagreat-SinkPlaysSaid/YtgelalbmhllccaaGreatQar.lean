/- The landed pad: the tests of Take; Take. -/
import Derived.Test.YtgelalbmhllccaaGreatQaq
import Derived.Test.YtgelalbmhllccaaGreatQaf
import Derived.Test.YtgelalbmhllccaaGreatQac
import Derived.Deep.LoopGhost
import Derived.Laws.EntriesVeiled
import Derived.Test.YtgelalbmhllccaaGreatQab
import Derived.Test.YtgelalbmhllccaaGreatQap
import Derived.Deep.DeepCutAuto
import Derived.Deep.CutBlock
import Derived.Stop.RegionWithIn
namespace Go.Proofs.YtgelalbmhllccaaGreat
open Go.RowKit
set_option linter.unusedVariables false
set_option linter.unusedSimpArgs false
theorem notnought_any (x : Nat) (b : Bool) (hb : ((x : Int) != 0) = b) (w : World) :
    Calls Tryz.prog 118 #[.int .u8 x] w fun e w' => e = .returned (.bool b) ∧ w = w' := by
  go_enter Tryz.func118, Tryz.ntmps118
  go_wp2_with fail
  go_ret
  exact ⟨rfl, rfl⟩
set_option maxRecDepth 100000 in
theorem pindex_any (B n ca : Nat) (A : Option Addr) (xs : List Nat) (w : World) (h : Bytes w B A n xs) (_hn : n ≤ 140737488351232) :
    Calls Tryz.prog 121 #[.slice A n ca, .func (.func 118) #[] #[]] w fun e w' => (∃ z : Int, e = .returned (.int .i64 z) ∧ decide (0 ≤ z) = xs.any (fun x => x != 0)) ∧ w = w' := by
  go_enter Tryz.func121, Tryz.ntmps121
  go_wp2_with fail
  go_loop [8] (fun i => ∃ k : Nat, k ≤ n ∧ i = .int .i64 k ∧ ∀ j, j < k → xs.getD j 0 = 0) (fun i => n - (intOf i).toNat)
  case atStart => exact ⟨0, by omega, rfl, fun j hj => by omega⟩
  case round =>
    obtain ⟨k, hk, rfl, hz⟩ := hrel
    have HZ := Lib.hid hz
    clear hz
    by_cases hlt : k < n
    · obtain ⟨b1, o1, rfl, hb1, hc1⟩ := h.at_ hlt
      have hx := h.all.getD k
      by_cases h0 : xs.getD k 0 = 0
      · have hs : Hid (∀ j, j < k + 1 → xs.getD j 0 = 0) := fun j hj => by
          by_cases e : j = k
          · subst e; exact h0
          · exact HZ.out j (by omega)
        have b1' : (((xs.getD k 0 : Nat) : Int) != 0) = false := by rw [h0]; rfl
        generalize xs.getD k 0 = x at *
        have HB1 := Lib.hid b1'
        clear h0 b1'
        go_wp2_with fail
        refine (notnought_any x false HB1.out _).mono ?_
        rintro e w1 ⟨rfl, rfl⟩
        go_wp2_with fail
        go_round
        case rel => exact ⟨k + 1, by omega, by go_num, hs.out⟩
        case measure => simp [intOf]; omega
      · have hv : Hid (xs.any (fun x => x != 0) = true) := List.any_eq_true.2 ⟨xs.getD k 0, by
          rw [List.getD_eq_getElem?_getD, List.getElem?_eq_getElem (by rw [h.length]; exact hlt)]; exact List.getElem_mem _, by simpa using h0⟩
        have b1' : (((xs.getD k 0 : Nat) : Int) != 0) = true := by rw [bne_iff_ne]; omega
        generalize xs.getD k 0 = x at *
        have HB1 := Lib.hid b1'
        clear h0 b1'
        go_wp2_with fail
        refine (notnought_any x true HB1.out _).mono ?_
        rintro e w1 ⟨rfl, rfl⟩
        go_wp2_with fail
        go_ret
        exact ⟨⟨_, rfl, by rw [hv.out]; exact decide_eq_true (by omega)⟩, rfl⟩
    · have hv : Hid (xs.any (fun x => x != 0) = false) := List.any_eq_false.2 fun x hx => by
        obtain ⟨j, hj, e⟩ := List.getElem_of_mem hx
        have := HZ.out j (by rw [h.length] at hj; omega)
        rw [List.getD_eq_getElem?_getD, List.getElem?_eq_getElem hj] at this
        have h2 : x = 0 := by rw [← e]; exact this
        simp [h2]
      go_wp2_with fail
      go_ret
      exact ⟨⟨_, rfl, by rw [hv.out]; rfl⟩, rfl⟩
theorem pnoughts_any (B n ca : Nat) (A : Option Addr) (xs : List Nat) (w : World) (h : Bytes w B A n xs) (hn : n ≤ 140737488351232) :
    Calls Tryz.prog 117 #[.slice A n ca, .func (.func 118) #[] #[]] w fun e w' => e = .returned (.bool (xs.any (fun x => x != 0))) ∧ w = w' := by
  have HI := Lib.hid (pindex_any B n ca A xs w h hn)
  generalize xs.any (fun x => x != 0) = q at *
  clear h
  go_enter Tryz.func117, Tryz.ntmps117
  go_wp2_with fail
  refine HI.out.mono ?_
  rintro e w1 ⟨⟨z, rfl, hz⟩, rfl⟩
  go_wp2_with fail
  go_ret
  exact ⟨by rw [← hz]; rfl, rfl⟩
theorem notsize_any (n c S g : Nat) (A : Option Addr) (b : Bool) (hb : ((n : Int) != (S : Int)) = b) (w : World) (h : w.cell? ⟨g, 0, none⟩ = some (.int .i64 (S : Int))) :
    Calls Tryz.prog 111 #[.slice A n c, .pointer (some ⟨g, 0, none⟩)] w fun e w' => e = .returned (.bool b) ∧ w = w' := by
  go_enter Tryz.func111, Tryz.ntmps111
  go_wp2_with fail
  go_ret
  exact ⟨rfl, rfl⟩
set_option maxRecDepth 100000 in
theorem pindexrows_any (B n ca S g : Nat) (A : Option Addr) (rs : List RowV) (w : World) (h : RowsAt w B A n rs) (hn : n ≤ 1000000) (hc : w.cell? ⟨g, 0, none⟩ = some (.int .i64 (S : Int))) :
    Calls Tryz.prog 143 #[.slice A n ca, .func (.func 111) #[] #[.pointer (some ⟨g, 0, none⟩)]] w fun e w' => (∃ z : Int, e = .returned (.int .i64 z) ∧ decide (0 ≤ z) = rs.any (fun r => r.n != S)) ∧ w = w' := by
  have H := Lib.hid h
  clear h
  go_enter Tryz.func143, Tryz.ntmps143
  go_wp2_with fail
  go_loop [8] (fun i => ∃ k : Nat, k ≤ n ∧ i = .int .i64 k ∧ ∀ (j : Nat) (r : RowV), j < k → rs[j]? = some r → r.n = S) (fun i => n - (intOf i).toNat)
  case atStart => exact ⟨0, by omega, rfl, fun j r hj => by omega⟩
  case round =>
    obtain ⟨k, hk, rfl, hz⟩ := hrel
    have HZ := Lib.hid hz
    clear hz
    by_cases hlt : k < n
    · obtain ⟨b1, o1, r, rfl, hb1, hr, hc1, hby, hrn, hrc⟩ := H.out.at_ hlt
      by_cases h0 : r.n = S
      · have hs : Hid (∀ (j : Nat) (r : RowV), j < k + 1 → rs[j]? = some r → r.n = S) := fun j r' hj hr' => by
          by_cases e : j = k
          · subst e; rw [hr] at hr'; injection hr' with hr'; rw [← hr']; exact h0
          · exact HZ.out j r' (by omega) hr'
        have b1' : Hid (((r.n : Int) != (S : Int)) = false) := by show _ = _; rw [h0]; simp
        clear h0 hr hby
        go_wp2_with fail
        refine (notsize_any r.n r.c S g r.A false b1'.out _ hc).mono ?_
        rintro e w1 ⟨rfl, rfl⟩
        go_wp2_with fail
        go_round
        case rel => exact ⟨k + 1, by omega, by go_num, hs.out⟩
        case measure => simp [intOf]; omega
      · have hv : Hid (rs.any (fun r => r.n != S) = true) := List.any_eq_true.2 ⟨r, List.mem_of_getElem? hr, by simpa using h0⟩
        have b1' : Hid (((r.n : Int) != (S : Int)) = true) := by show _ = _; rw [bne_iff_ne]; omega
        clear h0 hr hby
        go_wp2_with fail
        refine (notsize_any r.n r.c S g r.A true b1'.out _ hc).mono ?_
        rintro e w1 ⟨rfl, rfl⟩
        go_wp2_with fail
        go_ret
        exact ⟨⟨_, rfl, by rw [hv.out]; exact decide_eq_true (by omega)⟩, rfl⟩
    · have hv : Hid (rs.any (fun r => r.n != S) = false) := List.any_eq_false.2 fun r hr => by
        obtain ⟨j, hj, e⟩ := List.getElem_of_mem hr
        have h2 : r.n = S := HZ.out j r (by have := H.out.1; omega) (by rw [List.getElem?_eq_getElem hj, e])
        simp [h2]
      go_wp2_with fail
      go_ret
      exact ⟨⟨_, rfl, by rw [hv.out]; rfl⟩, rfl⟩
theorem psizes_any (B n ca S g : Nat) (A : Option Addr) (rs : List RowV) (w : World) (h : RowsAt w B A n rs) (hn : n ≤ 1000000) (hc : w.cell? ⟨g, 0, none⟩ = some (.int .i64 (S : Int))) :
    Calls Tryz.prog 110 #[.slice A n ca, .func (.func 111) #[] #[.pointer (some ⟨g, 0, none⟩)]] w fun e w' => e = .returned (.bool (rs.any (fun r => r.n != S))) ∧ w = w' := by
  have HI := Lib.hid (pindexrows_any B n ca S g A rs w h hn hc)
  generalize rs.any (fun r => r.n != S) = q at *
  clear h
  go_enter Tryz.func110, Tryz.ntmps110
  go_wp2_with fail
  refine HI.out.mono ?_
  rintro e w1 ⟨⟨z, rfl, hz⟩, rfl⟩
  go_wp2_with fail
  go_ret
  exact ⟨by rw [← hz]; rfl, rfl⟩
end Go.Proofs.YtgelalbmhllccaaGreat
/- The landed pad: Take. -/
namespace Go.Proofs.YtgelalbmhllccaaGreat
open Go.RowKit
set_option linter.unusedVariables false
set_option linter.unusedSimpArgs false
theorem ptake_out (g s : Int) (h : ¬ MayG g s) (A : Option Addr) (n c : Nat) (w : World) : Calls Tryz.prog 72 #[.slice A n c, .int .i64 g, .int .i64 s] w (NewPair w [] 1) := by
  have hc : (w.alloc (.cells #[.int .i64 s] 3)).cell? ⟨w.heap.size, 0, none⟩ = some (.int .i64 s) := by rw [World.cell?_alloc_at _ _ _ _ rfl]; rfl
  go_enter Tryz.func72, Tryz.ntmps72
  go_wp2_with fail
  refine (proom_out g s h _).mono ?_
  rintro e w1 ⟨rfl, rfl⟩
  go_wp2_with fail
  go_ret2
  exact NewPair.none_at ((Keep.refl w).alloc _ _) 1
theorem ptake_dim (G S P n : Nat) (g1 : 1 ≤ G) (g2 : G ≤ 255) (s1 : 1 ≤ S) (s2 : S ≤ 65535) (hP : (G : Int) * (S : Int) = (P : Int)) (p1 : 5 ≤ P) (p2 : P ≤ 16711425) (hn : n ≠ G) (A : Option Addr) (c : Nat) (w : World) : Calls Tryz.prog 72 #[.slice A n c, .int .i64 (G : Int), .int .i64 (S : Int)] w (NewPair w [] 21) := by
  have d1 : ((n : Int) == (G : Int)) = false := beq_eq_false_iff_ne.2 (by omega)
  have hc : (w.alloc (.cells #[.int .i64 (S : Int)] 3)).cell? ⟨w.heap.size, 0, none⟩ = some (.int .i64 (S : Int)) := by rw [World.cell?_alloc_at _ _ _ _ rfl]; rfl
  go_enter Tryz.func72, Tryz.ntmps72
  go_wp2_with fail
  refine (proom_in G S P g1 g2 s1 s2 hP p1 p2 _).mono ?_
  rintro e w1 ⟨rfl, rfl⟩
  go_wp2_with fail
  go_ret2
  exact NewPair.none_at ((Keep.refl w).alloc _ _) 21
theorem join_flat (rs : List RowV) : joinN rs = (rowsOf rs).flatten := by simp [joinN, rowsOf, List.flatMap_def]
theorem sizes_all {S : Nat} : ∀ {rs : List RowV}, (∀ r ∈ rs, r.n = S) → sizesN rs = rs.length * S
  | [], _ => by simp [sizesN]
  | r :: rs, h => by
    have ih := sizes_all (rs := rs) fun x hx => h x (by simp [hx])
    unfold sizesN at ih ⊢
    rw [List.map_cons, List.sum_cons, ih, h r (by simp), List.length_cons, Nat.add_mul, Nat.one_mul, Nat.add_comm]
theorem okSym_iff {G S : Nat} {rs : List RowV} (hl : rs.length = G) (hx : ∀ r ∈ rs, r.xs.length = r.n) : okSym G S (rowsOf rs) ↔ rs.any (fun r => r.n != S) = false := by
  rw [List.any_eq_false]
  constructor
  · rintro ⟨_, h⟩ r hr
    have := h r.xs (List.mem_map.2 ⟨r, hr, rfl⟩)
    rw [hx r hr] at this
    simp [this]
  · intro h
    refine ⟨by rw [rowsOf, List.length_map, hl], fun x hm => ?_⟩
    obtain ⟨r, hr, rfl⟩ := List.mem_map.1 hm
    have := h r hr
    rw [hx r hr]
    simpa using this
set_option maxRecDepth 100000 in
set_option maxHeartbeats 4000000 in
theorem ptake_in (G S P : Nat) (g1 : 1 ≤ G) (g2 : G ≤ 255) (s1 : 1 ≤ S) (s2 : S ≤ 65535) (hP : (G : Int) * (S : Int) = (P : Int)) (p1 : 5 ≤ P) (p2 : P ≤ 16711425) (A : Option Addr) (c : Nat) (rs : List RowV) (w : World) (h : RowsAt w w.heap.size A G rs) :
    Calls Tryz.prog 72 #[.slice A G c, .int .i64 (G : Int), .int .i64 (S : Int)] w (NewPair w (takeV G S (rowsOf rs)) (takeE G S (rowsOf rs))) := by
  have HPN : Hid (G * S = P) := by
    have : ((G * S : Nat) : Int) = (P : Int) := by rw [← hP]; simp
    show _ = _
    omega
  obtain ⟨w0, hw0⟩ : ∃ w0, w.alloc (.cells #[.int .i64 (S : Int)] 3) = w0 := ⟨_, rfl⟩
  obtain ⟨gs, hgs⟩ : ∃ gs, w.heap.size = gs := ⟨_, rfl⟩
  have hc : w0.cell? ⟨gs, 0, none⟩ = some (.int .i64 (S : Int)) := by rw [← hw0, ← hgs, World.cell?_alloc_at _ _ _ _ rfl]; rfl
  have K0 : Hid (Keep w w0) := by show Keep w w0; rw [← hw0]; exact (Keep.refl w).alloc _ _
  have H0 : Hid (RowsAt w0 w0.heap.size A G rs) := by
    have h1 := h.keep (Nat.le_refl _) K0.out
    exact ⟨h1.1, fun r hr => ⟨(h1.2.1 r hr).1.mono K0.out.size, (h1.2.1 r hr).2⟩, fun hn => by
      obtain ⟨b, off, e, hb, hcc⟩ := h1.2.2 hn
      exact ⟨b, off, e, Nat.lt_of_lt_of_le hb K0.out.size, hcc⟩⟩
  have HR := Lib.hid (proom_in G S P g1 g2 s1 s2 hP p1 p2 w0)
  have HSZ := Lib.hid (psizes_any w0.heap.size G c S gs A rs w0 H0.out (by omega) hc)
  have HX : Hid (∀ r ∈ rs, r.xs.length = r.n) := fun r hr => (H0.out.2.1 r hr).1.length
  have HOK := Lib.hid (okSym_iff (S := S) H0.out.1 HX.out)
  have HW0 := Lib.hid hw0
  have HGS := Lib.hid hgs
  clear h
  generalize hq : rs.any (fun r => r.n != S) = q at *
  have HQ := Lib.hid hq
  clear hq
  obtain ⟨E, hE⟩ : ∃ E, takeE G S (rowsOf rs) = E := ⟨_, rfl⟩
  obtain ⟨V, hV⟩ : ∃ V, takeV G S (rowsOf rs) = V := ⟨_, rfl⟩
  rw [hE, hV]
  have HEE := Lib.hid hE
  have HVV := Lib.hid hV
  clear hE hV
  go_enter Tryz.func72, Tryz.ntmps72
  go_wp2_with fail
  refine HR.out.mono ?_
  rintro e w1 ⟨rfl, rfl⟩
  cases q with
  | true =>
    have h1 : E = 21 := by
      rw [← HEE.out, takeE, if_pos]
      intro hok
      exact absurd (HOK.out.1 hok) (by decide)
    have h2 : V = [] := by rw [← HVV.out, takeV, HEE.out, if_neg (by rw [h1]; decide)]
    clear HEE HVV
    subst h1; subst h2
    go_wp2_with fail
    refine HSZ.out.mono ?_
    rintro e w1 ⟨rfl, rfl⟩
    go_wp2_with fail
    go_ret2
    exact NewPair.none_at K0.out 21
  | false =>
    have hok : okSym G S (rowsOf rs) := HOK.out.2 rfl
    have hsz : ∀ r ∈ rs, r.n = S := fun r hr => by
      have := List.any_eq_false.1 HQ.out r hr
      simpa using this
    have HSS : Hid (sizesN rs = P) := by show _ = _; rw [sizes_all hsz, H0.out.1, HPN.out]
    obtain ⟨Y, hY⟩ : ∃ Y, (rowsOf rs).flatten = Y := ⟨_, rfl⟩
    have HJ : Hid (joinN rs = Y) := by show _ = _; rw [join_flat, hY]
    have HYL : Hid (Y.length = P) := by
      show _ = _
      rw [← hY, flat_cut hok.2, hok.1, HPN.out]
    have HYA : Hid (AllB Y) := by
      rw [← HJ.out]
      show AllB (joinN rs)
      intro x hx
      obtain ⟨r, hr, hx⟩ := List.mem_flatMap.1 hx
      exact (H0.out.2.1 r hr).1.2.1 x hx
    have HE : Hid (E = (if ¬ okForm P Y then 5 else 0) ∧ V = if E = 0 then (Y.drop 4).take (headN Y) else []) := by
      refine And.intro ?_ ?_
      · rw [← HEE.out, takeE, if_neg (not_not_intro hok), hY, HPN.out]
      · rw [← HVV.out, takeV, HEE.out, hY]
    clear HEE HVV hsz hok
    go_wp2_with fail
    refine HSZ.out.mono ?_
    rintro e w1 ⟨rfl, rfl⟩
    go_wp2_with fail
    refine (concat_any w0.heap.size G c A rs w0 H0.out.up (Nat.le_refl _) (by omega) (by rw [HSS.out]; omega)).mono ?_
    rintro e w2 ⟨A2, n2, c2, rfl, o2, k2⟩
    rw [HJ.out] at o2
    have hn2 : P = n2 := by have := o2.length; rw [HYL.out] at this; exact this
    subst hn2
    have K2 : Hid (Keep w w2) := K0.out.trans k2
    have B2 := Lib.hid o2.bytes
    clear o2 k2
    go_wp2_with fail
    refine (wnew_any _ P c2 A2 Y w2 B2.out (Nat.le_refl _) (by omega)).mono ?_
    rintro e w3 ⟨g, F, rfl, hr, hF, k3⟩
    have hgw : Hid (w.heap.size ≤ g) := by
      have h1 := hF g hr.at_
      have h2 := K2.out.size
      show _ ≤ _; omega
    have K3 : Hid (Keep w w3) := K2.out.trans k3
    have R3 := Lib.hid hr
    clear hr hF k3
    go_wp2_with fail
    refine (wread_in F g Y 4 (by omega) (by omega) (by rw [HYL.out]; omega) w3 R3.out).mono ?_
    rintro e w4 ⟨rfl, r4, k4⟩
    have R4 := Lib.hid r4
    have K4 : Hid (Keep w w4) := K3.out.grown k4 fun k hk => by injection hk with hk; rw [← hk]; exact hgw.out
    clear r4 k4
    obtain ⟨v, hv⟩ : ∃ v, valN (Y.take 4) = v := ⟨_, rfl⟩
    have HV : Hid (headN Y = v) := hv
    have hvl : v < 4294967296 := by
      rw [← hv]
      have := valN_lt (Y.take 4) (HYA.out.take 4)
      rw [List.length_take, HYL.out, Nat.min_eq_left (by omega)] at this
      simpa using this
    rw [hv]
    clear hv
    have w1 : IntKind.u64.wrap ((P - 4 : Nat) : Int) = ((P - 4 : Nat) : Int) := IntWalk.u64_in _ (by omega)
    have w2 : IntKind.i64.wrap (v : Int) = (v : Int) := IntWalk.i64_in _ (by omega)
    by_cases hv1 : v < 1
    · have d1 : ((v : Int) == 0) = true := by rw [beq_iff_eq]; omega
      have h1 : E = 5 := by rw [HE.out.1, if_pos]; intro hk; have := hk.1; rw [HV.out] at this; omega
      have h2 : V = [] := by rw [HE.out.2, if_neg (by rw [h1]; decide)]
      clear HE
      subst h1; subst h2
      obtain rfl : v = 0 := by omega
      clear hv1 d1
      go_wp2_with fail
      go_ret2
      exact NewPair.none_at K4.out 5
    have d1 : ((v : Int) == 0) = false := beq_eq_false_iff_ne.2 (by omega)
    by_cases hv2 : P - 4 < v
    · have d2 : decide (((P - 4 : Nat) : Int) < (v : Int)) = true := decide_eq_true (by omega)
      have d2' : decide (P - 4 < v) = true := decide_eq_true hv2
      have h1 : E = 5 := by rw [HE.out.1, if_pos]; intro hk; have := hk.2.1; rw [HV.out] at this; omega
      have h2 : V = [] := by rw [HE.out.2, if_neg (by rw [h1]; decide)]
      clear HE
      subst h1; subst h2
      go_wp2_with fail
      go_ret2
      exact NewPair.none_at K4.out 5
    have d2 : decide (((P - 4 : Nat) : Int) < (v : Int)) = false := decide_eq_false (by omega)
    have d2' : decide (P - 4 < v) = false := decide_eq_false hv2
    have HV1 : Hid (1 ≤ v ∧ v + 4 ≤ P) := ⟨by omega, by omega⟩
    clear hv1 hv2
    go_wp2_with fail
    refine (wtake_in F g (Y.drop 4) v (by rw [List.length_drop, HYL.out]; have := HV1.out; omega) (by omega) w4 R4.out).mono ?_
    rintro e w5 ⟨A5, n5, c5, rfl, o5, ⟨r5, f5⟩, k5⟩
    have O5 : Hid (Own w5 w.heap.size 5 A5 n5 c5 ((Y.drop 4).take v)) := o5.lower K4.out.size
    have R5 := Lib.hid r5
    have F5 := Lib.hid f5
    have K5 : Hid (Keep w w5) := K4.out.grown k5 fun k hk => by injection hk with hk; rw [← hk]; exact hgw.out
    clear o5 r5 f5 k5
    go_wp2_with fail
    refine (wleft_any F g ((Y.drop 4).drop v) w5 R5.out).mono ?_
    rintro e w6 ⟨rfl, rfl⟩
    obtain ⟨Z, hZ⟩ : ∃ Z, (Y.drop 4).drop v = Z := ⟨_, rfl⟩
    have HZ : Hid (Y.drop (4 + v) = Z) := by show _ = _; rw [← hZ, List.drop_drop]
    have HZL : Hid (Z.length = P - 4 - v) := by show _ = _; rw [← hZ, List.length_drop, List.length_drop, HYL.out]
    rw [hZ] at R5 ⊢
    clear hZ
    obtain ⟨z, hz⟩ : ∃ z, Z.length = z := ⟨_, rfl⟩
    have hzb : z ≤ 16711425 := by have := HZL.out; omega
    have T7 := Lib.hid (wtake_in F g Z z (by omega) (by omega) w5 R5.out)
    have HZZ := Lib.hid hz
    rw [hz]
    clear hz
    go_wp2_with fail
    refine T7.out.mono ?_
    rintro e w7 ⟨A7, n7, c7, rfl, o7, _, k7⟩
    rw [List.take_of_length_le (by rw [HZZ.out]; exact Nat.le_refl _)] at o7
    have hn7 : z = n7 := by have := o7.length; rw [HZZ.out] at this; exact this
    subst hn7
    have O7 : Hid (Own w7 w.heap.size 5 A5 n5 c5 ((Y.drop 4).take v)) := O5.out.turned (Turned.of_grown (F := fun b => b = g) k7 fun i hi => by injection hi with hi; exact hi.symm) fun b hb hf => F5.out b hb (by rw [hf]; exact R5.out.at_)
    have B7 := Lib.hid o7.bytes
    have K7 : Hid (Keep w w7) := K5.out.grown k7 fun k hk => by injection hk with hk; rw [← hk]; exact hgw.out
    clear o7 k7
    obtain ⟨q, hq⟩ : ∃ q, Z.any (fun x => x != 0) = q := ⟨_, rfl⟩
    have HN := Lib.hid (pnoughts_any _ z c7 A7 Z w7 B7.out (by omega))
    rw [hq] at HN
    have HQ7 := Lib.hid hq
    clear hq
    go_wp2_with fail
    refine HN.out.mono ?_
    rintro e w8 ⟨rfl, rfl⟩
    cases q with
    | true =>
      have h1 : E = 5 := by
        rw [HE.out.1, if_pos]
        intro hk
        have h3 := hk.2.2
        rw [HV.out, HZ.out] at h3
        obtain ⟨x, hx, hx0⟩ := List.any_eq_true.1 HQ7.out
        rw [h3 x hx] at hx0
        exact absurd hx0 (by decide)
      have h2 : V = [] := by rw [HE.out.2, if_neg (by rw [h1]; decide)]
      clear HE
      subst h1; subst h2
      go_wp2_with fail
      go_ret2
      exact NewPair.none_at K7.out 5
    | false =>
      have h1 : E = 0 := by
        rw [HE.out.1, if_neg]
        refine not_not_intro ⟨by rw [HV.out]; exact HV1.out.1, by rw [HV.out]; have := HV1.out; omega, fun x hx => ?_⟩
        rw [HV.out, HZ.out] at hx
        have := List.any_eq_false.1 HQ7.out x hx
        simpa using this
      have h2 : V = (Y.drop 4).take v := by rw [HE.out.2, if_pos h1, HV.out]
      clear HE
      subst h1; subst h2
      go_wp2_with fail
      go_ret2
      exact ⟨A5, n5, c5, rfl, O7.out, K7.out⟩
end Go.Proofs.YtgelalbmhllccaaGreat
/- The landed pad: Lay. -/
namespace Go.Proofs.YtgelalbmhllccaaGreat
open Go.RowKit
set_option linter.unusedVariables false
set_option linter.unusedSimpArgs false
theorem Cur.turned {F : Nat → Prop} {w w' : World} {gC m c : Nat} {A : Option Addr} (h : Cur w gC m c A) (k : Turned F w w') (hn : ¬ F gC) : Cur w' gC m c A := (k.block gC (lt_of_block h) hn).trans h
theorem Cur.keep {w w' : World} {gC m c : Nat} {A : Option Addr} (h : Cur w gC m c A) (k : Keep w w') : Cur w' gC m c A := (k.block gC (lt_of_block h)).trans h
theorem Cur.lt {w : World} {gC m c : Nat} {A : Option Addr} (h : Cur w gC m c A) : gC < w.heap.size := lt_of_block h
/-- The rows of one block, cut. -/
def rsL (b S : Nat) (ys : List Nat) (k : Nat) : List RowV := (List.range k).map fun i => ⟨some ⟨b, i * S, none⟩, S, S, cutN S i ys⟩
theorem rsL_get {b S k i : Nat} {ys : List Nat} (h : i < k) : (rsL b S ys k)[i]? = some ⟨some ⟨b, i * S, none⟩, S, S, cutN S i ys⟩ := by simp [rsL, h]
/-- What Lay hands back: rows of one block of its own, side by side. -/
def LaidAt (w : World) (base gr b c G S P : Nat) (ys : List Nat) : Prop :=
  OwnRows w base 43 (some ⟨gr, 0, none⟩) G G (rsL b S ys G) ∧ Own w base 5 (some ⟨b, 0, none⟩) P c ys
end Go.Proofs.YtgelalbmhllccaaGreat
/- The document's own Chunks of layer 9: the walk. -/
namespace Go.Proofs.YtgelalbmhllccaaGreat
open Go.RowKit
set_option linter.unusedVariables false
set_option linter.unusedSimpArgs false
theorem chunk_count {room : Nat} {cuts xs : List Nat} : ∀ t, (chunkN room cuts xs t).1.length ≤ t
  | 0 => Nat.le_refl _
  | t + 1 => by
    have ih := chunk_count (room := room) (cuts := cuts) (xs := xs) t
    rw [chunkN_succ]
    by_cases h : isEnd room cuts (chunkN room cuts xs t).2 t
    · rw [if_pos h]
      show ((chunkN room cuts xs t).1 ++ [_]).length ≤ t + 1
      rw [List.length_append]; simp; omega
    · rw [if_neg h]; omega
end Go.Proofs.YtgelalbmhllccaaGreat
/- The document's own Chunks of layer 9: cuts that do not rise. -/
namespace Go.Proofs.YtgelalbmhllccaaGreat
open Go.RowKit
set_option linter.unusedVariables false
set_option linter.unusedSimpArgs false
theorem GoodC.next {n k : Nat} {l : List Int} (h : GoodC n l k) (x : Int) (hx : l[k]? = some x) (h1 : 0 ≤ x) (h2 : x ≤ (n : Int)) (h3 : ∀ y, 0 < k → l[k - 1]? = some y → y ≤ x) : GoodC n l (k + 1) := fun i z hi hz => by
  rcases Nat.lt_or_ge i k with h4 | h4
  · exact h i z h4 hz
  · obtain rfl : i = k := by omega
    rw [hx] at hz
    injection hz with hz
    subst hz
    exact ⟨h1, h2, h3⟩
end Go.Proofs.YtgelalbmhllccaaGreat
/- The landed pad: which cuts may be; chunks, step by step, plainly. -/
namespace Go.Proofs.YtgelalbmhllccaaGreat
open Go.RowKit
set_option linter.unusedVariables false
set_option linter.unusedSimpArgs false
section
variable {room : Nat} {cs xs : List Nat}
end
def CutsTold (n m : Nat) (l : List Int) (e : Ending) : Prop := ∃ q, e = .returned (.bool q) ∧ (q = true ↔ GoodC n l m)
theorem CutsTold.no {n m : Nat} {l : List Int} (h : ¬ GoodC n l m) : CutsTold n m l (.returned (.bool false)) := ⟨false, rfl, (fun h2 => absurd h2 (by decide)), fun h2 => absurd h2 h⟩
end Go.Proofs.YtgelalbmhllccaaGreat
/- The landed pad: a chunk more. -/
namespace Go.Proofs.YtgelalbmhllccaaGreat
open Go.RowKit
set_option linter.unusedVariables false
set_option linter.unusedSimpArgs false
/-- A variable of its own. -/
def Var1 (w : World) (g : Nat) (v : Value) (t : TypeId) : Prop := w.heap[g]? = some (.cells #[v] t (0, 0))
namespace Var1
variable {w w' : World} {g : Nat} {v : Value} {t : TypeId}
theorem cell (h : Var1 w g v t) : w.cell? ⟨g, 0, none⟩ = some v := cell_of_one h
theorem free (h : Var1 w g v t) : w.frozen? ⟨g, 0, none⟩ = false := free_of_one h
theorem put {u : Value} (h : Var1 w g v t) : Var1 (w.setCell ⟨g, 0, none⟩ u) g u t := one_setCell h
theorem lt (h : Var1 w g v t) : g < w.heap.size := lt_of_block h
theorem turned {F : Nat → Prop} (h : Var1 w g v t) (k : Turned F w w') (hn : ¬ F g) : Var1 w' g v t := (k.block g (lt_of_block h) hn).trans h
end Var1
/-- The places of Chunks' own variables. -/
structure ChK (w : World) (B1 B2 B3 gC b base N cN : Nat) : Prop where
  o1 : w.heap.size ≤ B1
  o2 : B1 < gC
  o3 : gC < B2
  o4 : B2 < B3
  o5 : B3 < base
  ob : 0 < N → B1 < b ∧ b < gC
  oc : N ≤ cN ∧ N ≤ 100000
/-- All but the chunks: the function that hands out, the place, what is left, the bytes. -/
structure ChB (w : World) (B2 B3 gC b N cN : Nat) (ys : List Nat) (wr : World) (at_ cp : Nat) : Prop where
  fn : Var1 wr B2 (.func (.func 154) #[] #[.pointer (some ⟨gC, 0, none⟩)]) 203
  pos : Var1 wr B3 (.int .i64 (at_ : Int)) 3
  cur : ∃ A, Cur wr gC (N - cp) (cN - cp) A ∧ (cp < N → A = some ⟨b, cp, none⟩)
  str : ys.length = N ∧ AllB ys ∧ ∀ i, i < N → wr.cell? ⟨b, i, none⟩ = some (.int .u8 ((ys.getD i 0 : Nat) : Int))
  kp : Keep w wr
/-- The chunks so far. -/
structure ChR (wr : World) (base b N : Nat) (A : Option Addr) (k c : Nat) (rs : List RowV) : Prop where
  own : OwnRows wr base 43 A k c rs
  lie : ∀ r ∈ rs, LiesIn wr (fun x => x = b ∧ 0 < N) r
section
variable {w wr w' : World} {B1 B2 B3 gC b base N cN at_ cp k c : Nat} {ys : List Nat} {A : Option Addr} {rs : List RowV} {F : Nat → Prop}
theorem ChB.turned (h : ChB w B2 B3 gC b N cN ys wr at_ cp) (t : Turned F wr w') (n2 : ¬ F B2) (n3 : ¬ F B3) (nC : ¬ F gC) (nb : 0 < N → ¬ F b) (nw : ∀ x, F x → w.heap.size ≤ x) : ChB w B2 B3 gC b N cN ys w' at_ cp :=
  ⟨h.fn.turned t n2, h.pos.turned t n3, by
    obtain ⟨A, h1, h2⟩ := h.cur
    exact ⟨A, h1.turned t nC, h2⟩, ⟨h.str.1, h.str.2.1, fun i hi => t.cell (h.str.2.2 i hi) (nb (by omega))⟩, t.keep h.kp nw⟩
theorem ChR.turned (h : ChR wr base b N A k c rs) (t : Turned F wr w') (no : ∀ x, (Value.slice A k c).ownBlock = some x → ¬ F x) (nb : 0 < N → ¬ F b) : ChR w' base b N A k c rs :=
  ⟨OwnRows.turned h.own t no, fun r hr => (h.lie r hr).turned t fun x hx => by rw [hx.1]; exact nb hx.2⟩
/-- One place is written that is none of the others. -/
theorem ChB.set (K : ChK w B1 B2 B3 gC b base N cN) (h : ChB w B2 B3 gC b N cN ys wr at_ cp) (v : Value) : ChB w B2 B3 gC b N cN ys (wr.setCell ⟨B1, 0, none⟩ v) at_ cp := by
  have h1 := K.o1; have h2 := K.o2; have h3 := K.o3; have h4 := K.o4; have h5 := K.ob
  exact h.turned (F := fun x => x = B1) (Turned.set wr _ _ rfl) (fun e => by have e : B2 = B1 := e; omega) (fun e => by have e : B3 = B1 := e; omega) (fun e => by have e : gC = B1 := e; omega) (fun hp e => by have e : b = B1 := e; have := h5 hp; omega) (fun x e => by have e : x = B1 := e; omega)
theorem ChB.moved (K : ChK w B1 B2 B3 gC b base N cN) (h : ChB w B2 B3 gC b N cN ys wr at_ cp) (z : Nat) : ChB w B2 B3 gC b N cN ys (wr.setCell ⟨B3, 0, none⟩ (.int .i64 (z : Int))) z cp := by
  have h1 := K.o1; have h2 := K.o2; have h3 := K.o3; have h4 := K.o4; have h5 := K.ob
  have t : Turned (fun x => x = B3) wr (wr.setCell ⟨B3, 0, none⟩ (.int .i64 (z : Int))) := Turned.set wr _ _ rfl
  exact ⟨h.fn.turned t (fun e => by have e : B2 = B3 := e; omega), h.pos.put, by
    obtain ⟨A, a1, a2⟩ := h.cur
    exact ⟨A, a1.turned t (fun e => by have e : gC = B3 := e; omega), a2⟩, ⟨h.str.1, h.str.2.1, fun i hi => t.cell (h.str.2.2 i hi) (fun e => by have e : b = B3 := e; have := h5 (by omega); omega)⟩, t.keep h.kp fun x e => by have e : x = B3 := e; omega⟩
theorem ChR.piece (h : ChB w B2 B3 gC b N cN ys wr at_ cp) {n : Nat} (h1 : 1 ≤ n) (hn : cp + n ≤ N) : LiesIn wr (fun x => x = b ∧ 0 < N) ⟨some ⟨b, cp, none⟩, n, n, pieceN ys cp (cp + n)⟩ := by
  obtain ⟨s1, s2, s3⟩ := h.str
  refine ⟨?_, fun x hx => s2 x (List.mem_of_mem_drop (List.mem_of_mem_take hx)), Nat.le_refl _, fun _ => ⟨b, cp, rfl, ⟨rfl, by omega⟩, fun i hi => ?_⟩⟩
  · show (pieceN ys cp (cp + n)).length = n
    rw [piece_len (by omega) (by omega)]; omega
  · have hi : i < n := hi
    rw [s3 (cp + i) (by omega)]
    show _ = some (Value.int .u8 (((pieceN ys cp (cp + n)).getD i 0 : Nat) : Int))
    rw [pieceN, Nat.add_sub_cancel_left, List.getD_eq_getElem?_getD, List.getD_eq_getElem?_getD, List.getElem?_take, if_pos hi, List.getElem?_drop]
end
end Go.Proofs.YtgelalbmhllccaaGreat
/- The landed pad: Chunks. -/
namespace Go.Proofs.YtgelalbmhllccaaGreat
open Go.RowKit
set_option linter.unusedVariables false
set_option linter.unusedSimpArgs false
/-- What Chunks hands back: rows of its own, and what is open. -/
def NewCh (w : World) (M : List (List Nat)) (O : List Nat) (er : Int) (e : Ending) (w' : World) : Prop :=
  ∃ A n c A' n' c' rs, e = .returned (.tuple #[.slice A n c, .slice A' n' c', .int .i64 er]) ∧ Laying w w' A n c rs ∧ rowsXs rs = M ∧ LiesIn w' (fun b => w.heap.size ≤ b ∧ b < w'.heap.size) ⟨A', n', c', O⟩ ∧ Keep w w'
theorem NewCh.nil {w w' : World} (k : Keep w w') (er : Int) : NewCh w [] [] er (.returned (.tuple #[.slice none 0 0, .slice none 0 0, .int .i64 er])) w' :=
  ⟨none, 0, 0, none, 0, 0, [], rfl, (Laying.nothing w).later k, rfl, LiesIn.nothing _ _, k⟩
end Go.Proofs.YtgelalbmhllccaaGreat
/- Layer 9's statements: sizes brought into 1 to 40. -/
namespace Go.Proofs.YtgelalbmhllccaaGreat
open Go.RowKit
set_option linter.unusedVariables false
set_option linter.unusedSimpArgs false
end Go.Proofs.YtgelalbmhllccaaGreat
/- The contracts of layer 9 for any sizes. -/
namespace Go.Proofs.YtgelalbmhllccaaGreat
open Go.RowKit
set_option linter.unusedVariables false
set_option linter.unusedSimpArgs false
def roomV (g s : Int) : Int := if MayG g s then g * s - 4 else 0
def roomE (g s : Int) : Int := if MayG g s then 0 else 1
theorem proom_any (g s : Int) (w : World) : Calls Tryz.prog 31 #[.int .i64 g, .int .i64 s] w fun e w' => e = .returned (.tuple #[.int .i64 (roomV g s), .int .i64 (roomE g s)]) ∧ w = w' := by
  by_cases h : MayG g s
  · rw [roomV, roomE, if_pos h, if_pos h]
    obtain ⟨G, S, P, rfl, rfl, a1, a2, a3, a4, a5, a6, a7, a8⟩ := h.nat
    have := proom_in G S P a1 a2 a3 a4 a8 a6 a7 w
    rwa [a8, show (P : Int) - 4 = ((P - 4 : Nat) : Int) by omega]
  · rw [roomV, roomE, if_neg h, if_neg h]
    exact proom_out g s h w
theorem rroom_any (g s : Int) (w : World) : Calls Tryz.prog 32 #[.int .i64 g, .int .i64 s] w fun e w' => e = .returned (.tuple #[.int .i64 (roomV g s), .int .i64 (roomE g s)]) ∧ w = w' := by
  by_cases h : MayG g s
  · rw [roomV, roomE, if_pos h, if_pos h]
    obtain ⟨G, S, P, rfl, rfl, a1, a2, a3, a4, a5, a6, a7, a8⟩ := h.nat
    have := rroom_in G S P a1 a2 a3 a4 a8 a6 a7 w
    rwa [a8, show (P : Int) - 4 = ((P - 4 : Nat) : Int) by omega]
  · rw [roomV, roomE, if_neg h, if_neg h]
    exact rroom_out g s h w
/-- Rows whose first bytes may be turned. -/
def TurnAt (w : World) (base : Nat) (A : Option Addr) (n : Nat) : Prop :=
  n = 0 ∨ ∃ gr b S c P ys, A = some ⟨gr, 0, none⟩ ∧ base ≤ gr ∧ gr < w.heap.size ∧ base ≤ b ∧ b ≠ gr ∧ 1 ≤ S ∧ (∀ k, k < n → k * S < P) ∧ (∀ k, k < n → w.cell? ⟨gr, k, none⟩ = some (.slice (some ⟨b, k * S, none⟩) S S)) ∧ Own w base 5 (some ⟨b, 0, none⟩) P c ys
def NewLay (w : World) (M : List (List Nat)) (er : Int) (e : Ending) (w' : World) : Prop :=
  ∃ A n c, e = .returned (.tuple #[.slice A n c, .int .i64 er]) ∧ (∃ rs, RowsIn w' (fun b => w.heap.size ≤ b ∧ b < w'.heap.size) A n rs ∧ n ≤ c ∧ rowsXs rs = M) ∧ TurnAt w' w.heap.size A n ∧ n ≤ 255 ∧ Keep w w'
theorem NewLay.nil (w : World) (er : Int) : NewLay w [] er (.returned (.tuple #[.slice none 0 0, .int .i64 er])) w := ⟨none, 0, 0, rfl, ⟨[], RowsIn.nothing _ _ _, Nat.le_refl _, rfl⟩, Or.inl rfl, by omega, Keep.refl w⟩
theorem LaidAt.rows {w : World} {base gr b c G S P : Nat} {ys : List Nat} (h : LaidAt w base gr b c G S P ys) (hP : G * S = P) : RowsIn w (fun x => base ≤ x ∧ x < w.heap.size) (some ⟨gr, 0, none⟩) G (rsL b S ys G) := by
  refine RowsIn.of_own h.1 (fun r hr => ?_) fun x hx => ⟨h.1.rowLe x hx, (h.1.lt x hx).2⟩
  obtain ⟨i, hi, rfl⟩ := List.mem_map.1 hr
  have hi := List.mem_range.1 hi
  have hle : (i + 1) * S ≤ G * S := Nat.mul_le_mul_right S hi
  rw [Nat.add_mul, Nat.one_mul] at hle
  have hyl : ys.length = P := h.2.length
  refine ⟨?_, fun x hx => h.2.2 x (List.mem_of_mem_drop (List.mem_of_mem_take hx)), Nat.le_refl _, fun hp => ⟨b, i * S, rfl, ?_, fun j hj => ?_⟩⟩
  · show (cutN S i ys).length = S
    rw [cutN, List.length_take, List.length_drop]; omega
  · have hp : 0 < S := hp
    obtain ⟨b2, e, e2, e3⟩ := h.2.block (by omega)
    injection e with e; injection e with e
    subst e
    exact ⟨e2, e3⟩
  · have hj : j < S := hj
    rw [h.2.cell (i := i * S + j) (by omega)]
    show _ = some (Value.int .u8 (((cutN S i ys).getD j 0 : Nat) : Int))
    rw [cutN, List.getD_eq_getElem?_getD, List.getD_eq_getElem?_getD, List.getElem?_take, if_pos hj, List.getElem?_drop]
theorem LaidAt.turn {w : World} {base gr b c G S P : Nat} {ys : List Nat} (h : LaidAt w base gr b c G S P ys) (hP : G * S = P) (hS : 1 ≤ S) (hG : 1 ≤ G) : TurnAt w base (some ⟨gr, 0, none⟩) G := by
  have h1 := h.1.rowLe gr rfl
  have h2 := h.2.rowLe b rfl
  refine Or.inr ⟨gr, b, S, c, P, ys, rfl, h1, (h.1.lt gr rfl).2, h2, ?_, hS, fun k hk => ?_, fun k hk => ?_, h.2⟩
  · rcases blocks_apart h.2 h.1 (by decide) with e | e
    · cases e
    · exact fun e2 => e (by show some b = some gr; rw [e2])
  · have hle : (k + 1) * S ≤ G * S := Nat.mul_le_mul_right S hk
    rw [Nat.add_mul, Nat.one_mul] at hle
    omega
  · have := World.ownsRow.cellAt h.1 k (by omega)
    rw [this, List.getElem?_map, rsL_get hk]; rfl
def tkE (g s : Int) (R : List (List Nat)) : Int := if ¬ MayG g s then 1 else takeE g.toNat s.toNat R
def tkV (g s : Int) (R : List (List Nat)) : List Nat := if ¬ MayG g s then [] else takeV g.toNat s.toNat R
theorem take_dim {G S : Nat} {R : List (List Nat)} (h : R.length ≠ G) : takeE G S R = 21 ∧ takeV G S R = [] := by
  have e : takeE G S R = 21 := by rw [takeE, if_pos fun hk => h hk.1]
  exact ⟨e, by rw [takeV, e, if_neg (by decide)]⟩
theorem ptake_any (g s : Int) (A : Option Addr) (n c : Nat) (rs : List RowV) (w : World) (h : RowsAt w w.heap.size A n rs) : Calls Tryz.prog 72 #[.slice A n c, .int .i64 g, .int .i64 s] w (NewPair w (tkV g s (rowsOf rs)) (tkE g s (rowsOf rs))) := by
  by_cases hm : MayG g s
  · rw [tkE, tkV, if_neg (not_not_intro hm), if_neg (not_not_intro hm)]
    obtain ⟨G, S, P, rfl, rfl, a1, a2, a3, a4, a5, a6, a7, a8⟩ := hm.nat
    rw [Int.toNat_natCast, Int.toNat_natCast]
    by_cases hn : n = G
    · subst hn; exact ptake_in n S P a1 a2 a3 a4 a8 a6 a7 A c rs w h
    · have := take_dim (G := G) (S := S) (R := rowsOf rs) (by rw [rowsOf, List.length_map, h.1]; exact hn)
      rw [this.1, this.2]
      exact ptake_dim G S P n a1 a2 a3 a4 a8 a6 a7 hn A c w
  · rw [tkE, tkV, if_pos hm, if_pos hm]
    exact ptake_out g s hm A n c w
theorem rtake_any (g s : Int) (A : Option Addr) (n c : Nat) (rs : List RowV) (w : World) (h : RowsAt w w.heap.size A n rs) : Calls Tryz.prog 46 #[.slice A n c, .int .i64 g, .int .i64 s] w (NewPair w (tkV g s (rowsOf rs)) (tkE g s (rowsOf rs))) := by
  by_cases hm : MayG g s
  · rw [tkE, tkV, if_neg (not_not_intro hm), if_neg (not_not_intro hm)]
    obtain ⟨G, S, P, rfl, rfl, a1, a2, a3, a4, a5, a6, a7, a8⟩ := hm.nat
    rw [Int.toNat_natCast, Int.toNat_natCast]
    by_cases hn : n = G
    · subst hn; exact rtake_in n S P a1 a2 a3 a4 a8 a6 a7 A c rs w h
    · have := take_dim (G := G) (S := S) (R := rowsOf rs) (by rw [rowsOf, List.length_map, h.1]; exact hn)
      rw [this.1, this.2]
      exact rtake_dim G S P n a1 a2 a3 a4 a8 a6 a7 hn A c w
  · rw [tkE, tkV, if_pos hm, if_pos hm]
    exact rtake_out g s hm A n c w
/-- What Chunks tells, of a stream and its cuts. -/
def ToldC (g s : Int) (n : Nat) (xs : List Nat) (l : List Int) (M : List (List Nat)) (O : List Nat) (er : Int) : Prop :=
  ((¬ MayG g s ∨ ¬ GoodC n l l.length) ∧ M = [] ∧ O = [] ∧ er = 1) ∨
  (∃ (G S P : Nat) (cs : List Nat), g = G ∧ s = S ∧ 5 ≤ P ∧ P ≤ 16711425 ∧ g * s = (P : Int) ∧ MayG g s ∧ l = cs.map (fun x : Nat => (x : Int)) ∧ (∀ x ∈ cs, x ≤ n) ∧ (∀ (i j x y : Nat), i ≤ j → cs[i]? = some x → cs[j]? = some y → x ≤ y) ∧ M = (chunkN (P - 4) cs xs (n + 1)).1 ∧ O = xs.drop (chunkN (P - 4) cs xs (n + 1)).2 ∧ er = 0)
theorem ToldC.len {g s : Int} {n : Nat} {xs : List Nat} {l : List Int} {M : List (List Nat)} {O : List Nat} {er : Int} (h : ToldC g s n xs l M O er) : M.length ≤ n + 1 := by
  rcases h with ⟨_, rfl, _, _⟩ | ⟨G, S, P, cs, _, _, _, _, _, _, _, _, _, rfl, _, _⟩
  · simp
  · exact chunk_count _
end Go.Proofs.YtgelalbmhllccaaGreat
/- The landed sink: how it lies, its small calls, its iterator. -/
namespace Go.Proofs.YtgelalbmhllccaaGreat
open Go.RowKit Lin
set_option linter.unusedVariables false
set_option linter.unusedSimpArgs false
attribute [local go_sem] Oper.semAt_some
/-- It lies at q. -/
structure SnkR (w : World) (q : Nat) (g s : Int) (got of : Nat) (kn br : Bool) : Prop where
  block : w.heap[q]? = some (.cells #[.int .i64 g, .int .i64 s, .int .u64 (got : Int), .int .u64 (of : Int), .bool kn, .bool br] 78 (0, 0))
  may : MayG g s
  top : got ≤ topN
namespace SnkR
variable {w w' : World} {q got of : Nat} {g s : Int} {kn br : Bool} {G : Nat → Prop}
theorem lt (h : SnkR w q g s got of kn br) : q < w.heap.size := (Array.getElem?_eq_some_iff.1 h.block).1
theorem turned (h : SnkR w q g s got of kn br) (t : Turned G w w') (hn : ¬ G q) : SnkR w' q g s got of kn br := ⟨(t.block q h.lt hn).trans h.block, h.may, h.top⟩
theorem keep (h : SnkR w q g s got of kn br) (k : Keep w w') : SnkR w' q g s got of kn br := ⟨(k.block q h.lt).trans h.block, h.may, h.top⟩
theorem c0 (h : SnkR w q g s got of kn br) : w.cell? ⟨q, 0, none⟩ = some (.int .i64 g) := cell_of_row _ _ _ _ _ _ h.block
theorem c1 (h : SnkR w q g s got of kn br) : w.cell? ⟨q, 1, none⟩ = some (.int .i64 s) := cell_of_row _ _ _ _ _ _ h.block
theorem c2 (h : SnkR w q g s got of kn br) : w.cell? ⟨q, 2, none⟩ = some (.int .u64 (got : Int)) := cell_of_row _ _ _ _ _ _ h.block
theorem c3 (h : SnkR w q g s got of kn br) : w.cell? ⟨q, 3, none⟩ = some (.int .u64 (of : Int)) := cell_of_row _ _ _ _ _ _ h.block
theorem c4 (h : SnkR w q g s got of kn br) : w.cell? ⟨q, 4, none⟩ = some (.bool kn) := cell_of_row _ _ _ _ _ _ h.block
theorem c5 (h : SnkR w q g s got of kn br) : w.cell? ⟨q, 5, none⟩ = some (.bool br) := cell_of_row _ _ _ _ _ _ h.block
theorem free (h : SnkR w q g s got of kn br) (i : Nat) : w.frozen? ⟨q, i, none⟩ = false := by simp [World.frozen?, h.block]
theorem setGot (h : SnkR w q g s got of kn br) {n : Nat} (hn : n ≤ topN) : SnkR (w.setCell ⟨q, 2, none⟩ (.int .u64 (n : Int))) q g s n of kn br := ⟨by rw [bset h.block]; rfl, h.may, hn⟩
theorem setOf (h : SnkR w q g s got of kn br) (n : Nat) : SnkR (w.setCell ⟨q, 3, none⟩ (.int .u64 (n : Int))) q g s got n kn br := ⟨by rw [bset h.block]; rfl, h.may, h.top⟩
theorem setKn (h : SnkR w q g s got of kn br) (b : Bool) : SnkR (w.setCell ⟨q, 4, none⟩ (.bool b)) q g s got of b br := ⟨by rw [bset h.block]; rfl, h.may, h.top⟩
theorem setBr (h : SnkR w q g s got of kn br) (b : Bool) : SnkR (w.setCell ⟨q, 5, none⟩ (.bool b)) q g s got of kn b := ⟨by rw [bset h.block]; rfl, h.may, h.top⟩
end SnkR
/-- What is handed on: of generation n the chunk, or an error. -/
structure ChV where
  n : Nat
  A : Option Addr
  r : Nat
  c : Nat
  xs : List Nat
  e : Int
section
variable {F : Nat → Prop} {p q g s k b of : Nat} {L : Nat → List (List Nat)} {kn : Bool}
/-- Both, and the boxes of what the closure has captured. -/
structure SnkB (W : World) (F : Nat → Prop) (p q g s k b of : Nat) (L : Nat → List (List Nat)) (kn : Bool) (Bk Bb n : Nat) : Prop where
  sk : SnkR W q (g : Int) (s : Int) n of kn false
  y : RelR W F p g s k b L
  bk : Boxed W Bk 27 (.pointer (some ⟨q, 0, none⟩))
  bb : Boxed W Bb 34 (.pointer (some ⟨p, 0, none⟩))
theorem KeepsFrom.of_keep {B : Nat} {W W' : World} (t : Keep W W') : KeepsFrom B W W' := ⟨t.size, fun i o _ h _ => (t.block i (Array.getElem?_eq_some_iff.1 h).1).trans h⟩
theorem SnkB.keep {W W' : World} {Bk Bb n : Nat} (h : SnkB W F p q g s k b of L kn Bk Bb n) (t : Keep W W') : SnkB W' F p q g s k b of L kn Bk Bb n :=
  ⟨h.sk.keep t, h.y.keep t, (t.block Bk (Array.getElem?_eq_some_iff.1 h.bk).1).trans h.bk, (t.block Bb (Array.getElem?_eq_some_iff.1 h.bb).1).trans h.bb⟩
/-- Take of what was solved. -/
theorem take_solved {w w5 : World} {A4 : Option Addr} {n4 c4 n : Nat} {rt : List RowV} (hMG : MayG (g : Int) (s : Int)) (hl : ∀ x ∈ L n, x.length = g + s) (o4 : OwnRows w5 w.heap.size 43 A4 n4 c4 rt) (l4 : ∀ x ∈ rt, Own w5 w.heap.size 5 x.A x.n x.c x.xs) (ex : rowsXs rt = symN g (L n)) (w6 : World) (k6 : Keep w5 w6) :
    Calls Tryz.prog 72 #[.slice A4 n4 c4, .int .i64 (g : Int), .int .i64 (s : Int)] w6 (NewPair w6 (takeV g s (symN g (L n))) (takeE g s (symN g (L n)))) := by
  have hlen : ∀ r ∈ rt, r.n ≤ 140737488351232 := fun r hr => by
    have h1 : r.xs ∈ symN g (L n) := by rw [← ex]; exact List.mem_map.2 ⟨r, hr, rfl⟩
    obtain ⟨x, hx, e⟩ := List.mem_map.1 h1
    have h2 := (l4 r hr).lies.1
    simp only at h2
    rw [← e, List.length_drop, hl x hx] at h2
    have := hMG.2.2.2.1
    omega
  have hra := RowsIn.of_own (F := fun x => x < w5.heap.size) o4 (fun r hr => (l4 r hr).lies.mono fun x e => ((l4 r hr).1.lt x e).2) fun x e => (o4.lt x e).2
  have h := ptake_any (g : Int) (s : Int) A4 n4 c4 rt w6 ((hra.turned (Turned.of_keep (F := fun _ => False) k6) fun _ _ e => e).rowsAt (B := w6.heap.size) (fun x e => Nat.lt_of_lt_of_le e k6.size) hlen)
  have e1 : tkE (g : Int) (s : Int) (rowsOf rt) = takeE g s (symN g (L n)) := by rw [tkE, if_neg (not_not_intro hMG), ← ex]; rfl
  have e2 : tkV (g : Int) (s : Int) (rowsOf rt) = takeV g s (symN g (L n)) := by rw [tkV, if_neg (not_not_intro hMG), ← ex]; rfl
  rw [e1, e2] at h
  exact h
end
end Go.Proofs.YtgelalbmhllccaaGreat
