/- The landed code of layer 7: Solve tells rows that stand apart. -/
import Derived.Test.YtgelalbmhllccaaGreatQah
import Derived.Test.YtgelalbmhllccaaGreatQab
import Derived.Test.YtgelalbmhllccaaGreatQae
import Derived.OneCell
import Derived.Test.YtgelalbmhllccaaGreatQaf
import Derived.Test.YtgelalbmhllccaaGreatQai
namespace Go.Proofs.YtgelalbmhllccaaGreat
open Go.RowKit Lin
set_option linter.unusedVariables false
set_option linter.unusedSimpArgs false
/-- Symbols being told. -/
structure SolJ (w wr : World) (q g k : Nat) (B : List (List Nat)) (rs : List RowV) : Prop where
  base : w.heap.size = q
  st : OwnRows wr q 43 (some ⟨q, 0, none⟩) g g (rs ++ List.replicate (g - k) ⟨none, 0, 0, []⟩)
  len : rs.length = k
  own : ∀ r ∈ rs, Own wr (q + 1) 5 r.A r.n r.c r.xs
  xs : rowsXs rs = (B.take k).map (List.drop g)
  keep : Keep w wr
  inc : ∀ (i j : Nat) (r r' : RowV), i < j → rs[i]? = some r → rs[j]? = some r' → ∀ x y, (Value.slice r.A r.n r.c).ownBlock = some x → (Value.slice r'.A r'.n r'.c).ownBlock = some y → x < y
section
variable {w wr w2 : World} {q g k : Nat} {B : List (List Nat)} {rs : List RowV}
theorem SolJ.later (h : SolJ w wr q g k B rs) (kp : Keep wr w2) : SolJ w w2 q g k B rs :=
  ⟨h.base, h.st.keep kp, h.len, fun p hp => (h.own p hp).keep kp, h.xs, h.keep.trans kp, h.inc⟩
theorem SolJ.set (h : SolJ w wr q g k B rs) (hk : k < g) {r : RowV} {x : List Nat} (hr : Own wr (q + 1) 5 r.A r.n r.c r.xs) (hB : B[k]? = some x) (hx : r.xs = x.drop g) (hn : ∀ r0 ∈ rs, ∀ x y, (Value.slice r0.A r0.n r0.c).ownBlock = some x → (Value.slice r.A r.n r.c).ownBlock = some y → x < y) :
    SolJ w (wr.setCell ⟨q, k, none⟩ (.slice r.A r.n r.c)) q g (k + 1) B (rs ++ [r]) := by
  have T : Turned (fun b => b = q) wr (wr.setCell ⟨q, k, none⟩ (.slice r.A r.n r.c)) := Turned.set (F := fun b => b = q) wr ⟨q, k, none⟩ _ rfl
  refine ⟨h.base, ?_, by rw [List.length_append, h.len]; rfl, fun x hx => ?_, ?_, T.keep h.keep fun i e => by rw [e, h.base]; exact Nat.le_refl _, fun i j a b hij ha hb x y hx hy => ?_⟩
  · have e := h.st.stored (i := k) r
    rw [List.set_append_right _ _ (by rw [h.len]; exact Nat.le_refl _), h.len, Nat.sub_self, show g - k = (g - (k + 1)) + 1 by omega, List.replicate_succ, List.set_cons_zero] at e
    rwa [List.append_assoc]
  · have key : Own wr (q + 1) 5 x.A x.n x.c x.xs := by
      rcases List.mem_append.1 hx with e | e
      · exact h.own x e
      · rw [List.mem_singleton.1 e]; exact hr
    exact key.turned T fun b hb e => by have := (key.1.lt b hb).1; omega
  · have e := h.xs
    rw [rowsXs] at e ⊢
    rw [List.map_append, e, List.take_add_one, hB, Option.toList_some, List.map_append, List.map_singleton, List.map_singleton, hx]
  · rcases Nat.lt_or_ge j rs.length with hj | hj
    · rw [List.getElem?_append_left hj] at hb
      rw [List.getElem?_append_left (by omega)] at ha
      exact h.inc i j a b hij ha hb x y hx hy
    · rw [List.getElem?_append_right hj] at hb
      have hj0 : j - rs.length = 0 := by
        have := (List.getElem?_eq_some_iff.1 hb).1
        simpa using this
      rw [hj0] at hb
      obtain rfl : r = b := by simpa using hb
      rw [List.getElem?_append_left (by omega)] at ha
      exact hn a (List.mem_of_getElem? ha) x y hx hy
end
section
variable {w : World} {F : Nat → Prop} {b g s : Nat} {B : List (List Nat)}
set_option maxRecDepth 100000 in
set_option maxHeartbeats 2000000 in
theorem bsolve_ap (h : BasR w F b g s B) (hg : B.length = g) : Calls Tryz.prog 109 #[.pointer (some ⟨b, 0, none⟩)] w fun e w' => ∃ A c rs, e = .returned (.tuple #[.slice A g c, .int .i64 0]) ∧ OwnRows w' w.heap.size 43 A g c rs ∧ (∀ r ∈ rs, Own w' w.heap.size 5 r.A r.n r.c r.xs) ∧ rowsXs rs = B.map (List.drop g) ∧ Keep w w' ∧ (∀ (i j : Nat) (r r' : RowV), i < j → rs[i]? = some r → rs[j]? = some r' → ∀ x y, (Value.slice r.A r.n r.c).ownBlock = some x → (Value.slice r'.A r'.n r'.c).ownBlock = some y → x < y) := by
  obtain ⟨A, n, c, ps, h⟩ := h.open_
  have hl := h.len
  obtain rfl : n = g := by omega
  have c0 := h.c0
  have c2 := h.c2
  have h1 := h.g1
  have hg2 := h.g2
  have H := Lib.hid h
  have HB := Lib.hid (And.intro (h.lt b h.at_) (And.intro c2 hl))
  have e1 : decide ((n : Int) < (n : Int)) = false := decide_eq_false (by omega)
  have e2 : decide (n < n) = false := decide_eq_false (by omega)
  have mks := fun w => run_make_rows (P := Tryz.prog) Tryz.underlying40 infoRow n (by omega) w
  have h0 : SolJ w ((w.alloc (.cells (madeCells #[.slice none 0 0] n) 43)).drew) w.heap.size n 0 B [] := by
    exact ⟨rfl, by simpa using (OwnRows.made w 43 n (by omega)).drew, rfl, fun p hp => by simp at hp, by simp [rowsXs], ((Keep.refl w).alloc _ _).drew, fun i j r r' _ h => by simp at h⟩
  obtain ⟨⟨q, hq⟩⟩ : Nonempty (∃ q, w.heap.size = q) := ⟨_, rfl⟩
  rw [hq] at h0
  have H0 := Lib.hid h0
  have HQ := Lib.hid hq
  clear h hl hg h0
  go_enter Tryz.func109, Tryz.ntmps109
  go_wp2_with fail
  refine (bmade_eq b n _ c0 h1).mono ?_
  rintro e w' ⟨rfl, rfl⟩
  go_wp2_with fail
  go_region
  go_upto_region 6 with fail
  try simp only [hq]
  clear hq
  generalize (w.alloc (.cells (madeCells #[.slice none 0 0] n) 43)).drew = w4 at *
  have c2' := (H0.out.keep.cell (p := ⟨b, 2, none⟩) HB.out.1).trans HB.out.2.1
  clear mks c0 c2
  go_wp2_with fail
  clear c2'
  go_loopw [30] (fun i wr => ∃ (k : Nat) (rs : List RowV), k ≤ n ∧ i = .int .i64 k ∧ SolJ w wr q n k B rs) (fun i _ => n - (intOf i).toNat)
  case atStart => exact ⟨0, [], by omega, rfl, H0.out⟩
  case round =>
    obtain ⟨k, rs, hk, rfl, hI⟩ := hrel
    have HI := Lib.hid hI
    clear hI H0
    by_cases hlt : k < n
    · obtain ⟨b2, o2, p, rfl, hb2, hp, hc1, hc3, hl2, hl3⟩ := (H.out.st.keep HI.out.keep).at_ hlt
      have hsz := H.out.size p (List.mem_of_getElem? hp)
      have hrow := (H.out.sides).2
      have hBk : B[k]? = some (p.a.xs ++ p.b.xs) := by rw [← H.out.xs, List.getElem?_map, hp]; rfl
      have hdr : p.b.xs = (p.a.xs ++ p.b.xs).drop n := by rw [List.drop_left' (H.out.lens (List.mem_of_getElem? hp)).1]
      obtain ⟨⟨pA, pn, pc, px⟩, ⟨sA, sn, sc, sx⟩⟩ := p
      obtain ⟨z1, z2⟩ := hsz
      simp only at z1 z2 hBk hdr
      obtain rfl : sn = s := z2
      have e3 : (0 : Int) ≤ (k : Int) := Int.natCast_nonneg _
      have e4 : (k : Int) < (n : Int) := by omega
      have HP := Lib.hid (And.intro hBk (And.intro hdr (And.intro (hl3.bytes (B := wr.heap.size) fun x hx => Nat.lt_of_lt_of_le (H.out.lt x hx) HI.out.keep.size) H.out.s2)))
      have HLT : Hid (k < n) := hlt
      clear hp hl2 hl3 hb2 hBk hdr hrow z1
      go_upto_region 9 with fail
      have hkw : Keep wr (wr.alloc (.cells #[.slice pA pn pc, .slice sA sn sc] 45)) := (Keep.refl wr).alloc _ _
      have hnew := heap_alloc_new wr (.cells #[.slice pA pn pc, .slice sA sn sc] 45)
      obtain ⟨q5, hq5⟩ : ∃ q5, wr.heap.size = q5 := ⟨_, rfl⟩
      have HQ5 := Lib.hid hq5
      rw [hq5] at hnew
      simp only [hq5]
      clear hc1 hc3
      generalize (wr.alloc (.cells #[.slice pA pn pc, .slice sA sn sc] 45)) = w5 at *
      have H5 := Lib.hid (HI.out.later hkw)
      have HKW := Lib.hid hkw
      have d1 : w5.cell? ⟨q5, 1, none⟩ = some (.slice sA sn sc) := cell_of_row _ _ _ _ _ _ hnew
      clear hnew hkw hq5
      go_wp2_with fail
      refine (clone_any _ _ _ _ sx _ (HP.out.2.2.1.keep (Nat.le_refl _) HKW.out) HKW.out.size (by have := HP.out.2.2.2; omega)).mono ?_
      rintro e w6 ⟨A6, n6, c6, rfl, o6, k6⟩
      have H6 := Lib.hid (H5.out.later k6)
      have O6 := Lib.hid o6
      have S5 := Lib.hid HKW.out.size
      have z0 := World.ownsRow.cellAt H6.out.st k (by omega)
      have f0 := World.ownsRow.frozenAt H6.out.st k
      rw [List.getElem?_map, List.getElem?_append_right (by rw [H6.out.len]; exact Nat.le_refl _), H6.out.len, Nat.sub_self, show n - k = (n - (k + 1)) + 1 by omega, List.replicate_succ, List.getElem?_cons_zero] at z0
      change _ = some (Value.slice none 0 0) at z0
      clear d1 o6 k6
      go_wp2_with fail
      go_roundw
      case rel => exact ⟨k + 1, _, by omega, by go_num, H6.out.set hlt (r := ⟨A6, n6, c6, sx⟩) (O6.out.lower (by have h1 := S5.out; have h2 := HI.out.st.block (by omega); obtain ⟨g, e, _, hgl⟩ := h2; cases e; omega)) HP.out.1 HP.out.2.1 (fun r0 hr0 x y hx hy => by have h1 := (HI.out.own r0 hr0).1.lt x hx; have h2 := O6.out.1.lt y hy; have h3 := S5.out; omega)⟩
      case measure => simp [intOf]; omega
    · obtain rfl : k = n := by omega
      go_wp2_with fail
      go_ret2
      have o := HI.out.st
      rw [Nat.sub_self, List.replicate_zero, List.append_nil] at o
      refine ⟨_, _, rs, rfl, by rw [HQ.out]; exact o, fun r hr => (HI.out.own r hr).lower (by rw [HQ.out]; omega), ?_, HI.out.keep, HI.out.inc⟩
      rw [HI.out.xs, List.take_of_length_le (by rw [HB.out.2.2]; exact Nat.le_refl _)]
end
end Go.Proofs.YtgelalbmhllccaaGreat
/- Vector's landed contracts that stage 11 leans on: Lead, IsZero, Unit. -/
namespace Go.Proofs.YtgelalbmhllccaaGreat
open Go.RowKit
set_option linter.unusedVariables false
set_option linter.unusedSimpArgs false
end Go.Proofs.YtgelalbmhllccaaGreat
/- The landed draw's contracts: isCount, Systematic, Turn, lay, orElse, Coefs. -/
namespace Go.Proofs.YtgelalbmhllccaaGreat
open Go.RowKit
set_option linter.unusedVariables false
set_option linter.unusedSimpArgs false
end Go.Proofs.YtgelalbmhllccaaGreat
/- The landed draw's contracts: Coefs. -/
namespace Go.Proofs.YtgelalbmhllccaaGreat
open Go.RowKit
set_option linter.unusedVariables false
set_option linter.unusedSimpArgs false
end Go.Proofs.YtgelalbmhllccaaGreat
/- The landed draw's contracts: Turn. -/
namespace Go.Proofs.YtgelalbmhllccaaGreat
open Go.RowKit
set_option linter.unusedVariables false
set_option linter.unusedSimpArgs false
end Go.Proofs.YtgelalbmhllccaaGreat
/- The landed relay: Take, Rank, Rows, Solve, Send. -/
namespace Go.Proofs.YtgelalbmhllccaaGreat
open Go.RowKit Lin
set_option linter.unusedVariables false
set_option linter.unusedSimpArgs false
theorem takec_any (q q5 : Nat) (v1 v2 : Value) (w : World) {Q : Value → Value → World → Prop} (y0 : w.cell? ⟨q5, 0, none⟩ = some v1) (y1 : w.cell? ⟨q5, 1, none⟩ = some v2)
    (hi : Calls Tryz.prog 42 #[.pointer (some ⟨q, 0, none⟩), .agg #[v1, v2]] w fun e w' => ∃ a c, e = .returned (.tuple #[a, c]) ∧ Q a c w') :
    Calls Tryz.prog 41 #[.pointer (some ⟨q, 0, none⟩), .pointer (some ⟨q5, 0, none⟩)] w fun e w' => ∃ a c, e = .returned (.tuple #[a, c]) ∧ Q a c w' := by
  have HI := Lib.hid hi
  clear hi
  go_enter Tryz.func41, Tryz.ntmps41
  go_wp2_with fail
  refine HI.out.mono ?_
  rintro e w1 ⟨a, c, rfl, hQ⟩
  have HQ := Lib.hid hQ
  clear hQ
  go_wp2_with fail
  go_ret2
  exact ⟨a, c, rfl, HQ.out⟩
theorem rankc_any (q : Nat) (w : World) {Q : Value → World → Prop} (hi : Calls Tryz.prog 68 #[.pointer (some ⟨q, 0, none⟩)] w fun e w' => ∃ a, e = .returned a ∧ Q a w') :
    Calls Tryz.prog 67 #[.pointer (some ⟨q, 0, none⟩)] w fun e w' => ∃ a c, e = .returned (.tuple #[a, c]) ∧ (Q a w' ∧ c = .int .i64 0) := by
  have HI := Lib.hid hi
  clear hi
  go_enter Tryz.func67, Tryz.ntmps67
  go_wp2_with fail
  refine HI.out.mono ?_
  rintro e w1 ⟨a, rfl, hQ⟩
  have HQ := Lib.hid hQ
  clear hQ
  go_wp2_with fail
  go_ret2
  exact ⟨a, _, rfl, HQ.out, rfl⟩
theorem solvec_any (q : Nat) (w : World) {Q : Value → Value → World → Prop} (hi : Calls Tryz.prog 109 #[.pointer (some ⟨q, 0, none⟩)] w fun e w' => ∃ a c, e = .returned (.tuple #[a, c]) ∧ Q a c w') :
    Calls Tryz.prog 108 #[.pointer (some ⟨q, 0, none⟩)] w fun e w' => ∃ a c, e = .returned (.tuple #[a, c]) ∧ Q a c w' := by
  have HI := Lib.hid hi
  clear hi
  go_enter Tryz.func108, Tryz.ntmps108
  go_wp2_with fail
  refine HI.out.mono ?_
  rintro e w1 ⟨a, c, rfl, hQ⟩
  have HQ := Lib.hid hQ
  clear hQ
  go_wp2_with fail
  go_ret2
  exact ⟨a, c, rfl, HQ.out⟩
section
variable {w : World} {F : Nat → Prop} {p g s k b wb : Nat} {L : Nat → List (List Nat)} {S : List Slot}
theorem rl_rank (h : RelR w F p g s k b L) (n : Nat) (hn : n < 18446744073709551616) :
    Calls Tryz.prog 30 #[.pointer (some ⟨p, 0, none⟩), .int .u64 (n : Int)] w fun e w' => e = .returned (.int .i64 ((L n).length : Int)) ∧ w' = w := by
  obtain ⟨wb, S, h⟩ := h
  have HA : Hid (Calls Tryz.prog 66 #[.pointer (some ⟨p, 0, none⟩), .int .u64 (n : Int), .func (.func 67) #[] #[]] w fun e w' => ∃ a c, e = .returned (.tuple #[a, c]) ∧ (a = .int .i64 ((L n).length : Int) ∧ w' = w)) := by
    show Calls _ _ _ _ _
    cases hin : winIn b k n with
    | true =>
      obtain ⟨x, q, hx, hq, hB, hb⟩ := h.at_ hin
      refine (ask_int_in h n hn hin hx hq (Q := fun a c w' => a = .int .i64 ((L n).length : Int) ∧ w' = w) ?_)
      exact (rankc_any q w (Q := fun a w' => a = .int .i64 ((L n).length : Int) ∧ w' = w) ((brank_eq hb).mono fun e w' hh => ⟨_, hh.1, rfl, hh.2.symm⟩)).mono fun e w' hh => by
        obtain ⟨a, c, e1, e2, e3⟩ := hh
        exact ⟨a, c, e1, e2⟩
    | false => exact (ask_int_out h n hn hin).mono fun e w' hh => ⟨_, _, hh.1, by rw [h.out n hin]; rfl, hh.2⟩
  clear h hn
  go_enter Tryz.func30, Tryz.ntmps30
  go_wp2_with fail
  refine HA.out.mono ?_
  rintro e w1 ⟨a, c, rfl, rfl, rfl⟩
  go_wp2_with fail
  go_ret
  exact ⟨rfl, rfl⟩
theorem OwnedSt.none_ (w : World) (g s : Nat) : OwnedSt w w none 0 0 g s [] [] := ⟨OwnSt.none_ _ _, fun p hp => by simp at hp, rfl, Keep.refl w⟩
/-- Symbols told: each a slice of its own, one behind the other. -/
def Solved (w w' : World) (A : Option Addr) (g c : Nat) (B : List (List Nat)) (rs : List RowV) : Prop :=
  OwnRows w' w.heap.size 43 A g c rs ∧ (∀ r ∈ rs, Own w' w.heap.size 5 r.A r.n r.c r.xs) ∧ rowsXs rs = B.map (List.drop g) ∧ Keep w w' ∧ (∀ (i j : Nat) (r r' : RowV), i < j → rs[i]? = some r → rs[j]? = some r' → ∀ x y, (Value.slice r.A r.n r.c).ownBlock = some x → (Value.slice r'.A r'.n r'.c).ownBlock = some y → x < y)
theorem rl_solve_of (v : Value) (n : Nat) (w : World) {Q : Value → Value → World → Prop} (hi : Calls Tryz.prog 107 #[v, .int .u64 (n : Int), .func (.func 108) #[] #[]] w fun e w' => ∃ a c, e = .returned (.tuple #[a, c]) ∧ Q a c w') :
    Calls Tryz.prog 71 #[v, .int .u64 (n : Int)] w fun e w' => ∃ a c, e = .returned (.tuple #[a, c]) ∧ Q a c w' := by
  have HI := Lib.hid hi
  clear hi
  go_enter Tryz.func71, Tryz.ntmps71
  go_wp2_with fail
  refine HI.out.mono ?_
  rintro e w1 ⟨a, c, rfl, hQ⟩
  have HQ := Lib.hid hQ
  clear hQ
  go_wp2_with fail
  go_ret2
  exact ⟨a, c, rfl, HQ.out⟩
theorem rl_solve_in (h : RelR w F p g s k b L) (n : Nat) (hn : n < 18446744073709551616) (hin : winIn b k n = true) (hg : (L n).length = g) :
    Calls Tryz.prog 71 #[.pointer (some ⟨p, 0, none⟩), .int .u64 (n : Int)] w fun e w' => ∃ A c rs, e = .returned (.tuple #[.slice A g c, .int .i64 0]) ∧ Solved w w' A g c (L n) rs := by
  obtain ⟨wb, S, h⟩ := h
  obtain ⟨x, q, hx, hq, hB, hb⟩ := h.at_ hin
  refine (rl_solve_of _ n w (Q := fun a c w' => ∃ A d rs, a = .slice A g d ∧ c = .int .i64 0 ∧ Solved w w' A g d (L n) rs) (ask_syms_in h n hn hin hx hq (solvec_any q w ((bsolve_ap hb hg).mono fun e w' hh => ?_)))).mono fun e w' hh => ?_
  · obtain ⟨A, c, rs, e1, e2⟩ := hh
    exact ⟨_, _, e1, A, c, rs, rfl, rfl, e2⟩
  · obtain ⟨a, c, e1, A, d, rs, rfl, rfl, e2⟩ := hh
    exact ⟨A, d, rs, e1, e2⟩
theorem rl_solve_low (h : RelR w F p g s k b L) (n : Nat) (hn : n < 18446744073709551616) (hin : winIn b k n = true) (hg : (L n).length ≠ g) :
    Calls Tryz.prog 71 #[.pointer (some ⟨p, 0, none⟩), .int .u64 (n : Int)] w fun e w' => e = .returned (.tuple #[.slice none 0 0, .int .i64 24]) ∧ Keep w w' := by
  obtain ⟨wb, S, h⟩ := h
  obtain ⟨x, q, hx, hq, hB, hb⟩ := h.at_ hin
  refine (rl_solve_of _ n w (Q := fun a c w' => a = .slice none 0 0 ∧ c = .int .i64 24 ∧ Keep w w') (ask_syms_in h n hn hin hx hq (solvec_any q w ((bsolve_low hb hg).mono fun e w' hh => ⟨_, _, hh.1, rfl, rfl, hh.2⟩)))).mono fun e w' hh => ?_
  obtain ⟨a, c, e1, rfl, rfl, e2⟩ := hh
  exact ⟨e1, e2⟩
theorem rl_solve_out (h : RelR w F p g s k b L) (n : Nat) (hn : n < 18446744073709551616) (hin : winIn b k n = false) :
    Calls Tryz.prog 71 #[.pointer (some ⟨p, 0, none⟩), .int .u64 (n : Int)] w fun e w' => e = .returned (.tuple #[.slice none 0 0, .int .i64 23]) ∧ w' = w := by
  obtain ⟨wb, S, h⟩ := h
  refine (rl_solve_of _ n w (Q := fun a c w' => a = .slice none 0 0 ∧ c = .int .i64 23 ∧ w' = w) ((ask_syms_out h n hn hin).mono fun e w' hh => ⟨_, _, hh.1, rfl, rfl, hh.2⟩)).mono fun e w' hh => ?_
  obtain ⟨a, c, e1, rfl, rfl, e2⟩ := hh
  exact ⟨e1, e2⟩
theorem rl_take_of (v v1 v2 : Value) (n : Nat) (w : World) {Q : Value → Value → World → Prop}
    (hi : Calls Tryz.prog 40 #[v, .int .u64 (n : Int), .func (.func 41) #[] #[.pointer (some ⟨w.heap.size, 0, none⟩)]] (w.alloc (.cells #[v1, v2] 45)) fun e w' => ∃ a c, e = .returned (.tuple #[a, c]) ∧ Q a c w') (h1 : ∃ A n c, v1 = .slice A n c) (h2 : ∃ A n c, v2 = .slice A n c) :
    Calls Tryz.prog 11 #[v, .int .u64 (n : Int), .agg #[v1, v2]] w fun e w' => ∃ a c, e = .returned (.tuple #[a, c]) ∧ Q a c w' := by
  have HI := Lib.hid hi
  obtain ⟨A1, n1, c1, rfl⟩ := h1
  obtain ⟨A2, n2, c2, rfl⟩ := h2
  clear hi
  go_enter Tryz.func11, Tryz.ntmps11
  go_wp2_with fail
  refine HI.out.mono ?_
  rintro e w1 ⟨a, c, rfl, hQ⟩
  have HQ := Lib.hid hQ
  clear hQ
  go_wp2_with fail
  go_ret2
  exact ⟨a, c, rfl, HQ.out⟩
theorem row_block (w : World) (v1 v2 : Value) : (w.alloc (.cells #[v1, v2] 45)).cell? ⟨w.heap.size, 0, none⟩ = some v1 ∧ (w.alloc (.cells #[v1, v2] 45)).cell? ⟨w.heap.size, 1, none⟩ = some v2 ∧ Keep w (w.alloc (.cells #[v1, v2] 45)) :=
  ⟨cell_of_row _ _ _ _ _ _ (heap_alloc_new w _), cell_of_row _ _ _ _ _ _ (heap_alloc_new w _), (Keep.refl w).alloc _ _⟩
/-- A row that fits, of a generation in the window. -/
theorem rl_take_in (h : RelR w F p g s k b L) (n : Nat) (hn : n < 18446744073709551616) (hin : winIn b k n = true) (B1 B2 c1 c2 : Nat) (A1 A2 : Option Addr) (xs ys : List Nat) (hc1 : g ≤ c1) (hc2 : s ≤ c2) (h1 : Bytes w B1 A1 g xs) (h2 : Bytes w B2 A2 s ys) (hB1 : B1 ≤ w.heap.size) (hB2 : B2 ≤ w.heap.size) :
    Calls Tryz.prog 11 #[.pointer (some ⟨p, 0, none⟩), .int .u64 (n : Int), .agg #[.slice A1 g c1, .slice A2 s c2]] w fun e w' => e = .returned (.tuple #[.bool (!decide (inB g s (L n) (xs ++ ys))), .int .i64 0]) ∧ ∃ F', RelR w' F' p g s k b (upd L n (insB g s (L n) (xs ++ ys))) ∧ (∀ j, F' j → F j ∨ w.heap.size ≤ j) ∧ Turned F w w' := by
  obtain ⟨wb, S, h⟩ := h
  obtain ⟨r0, r1, rk⟩ := row_block w (.slice A1 g c1) (.slice A2 s c2)
  have h' := h.keep rk
  obtain ⟨x, q, hx, hq, hB, hb⟩ := h'.at_ hin
  refine (rl_take_of _ _ _ n w (Q := fun a c w' => a = .bool (!decide (inB g s (L n) (xs ++ ys))) ∧ c = .int .i64 0 ∧ ∃ F', RelR w' F' p g s k b (upd L n (insB g s (L n) (xs ++ ys))) ∧ (∀ j, F' j → F j ∨ w.heap.size ≤ j) ∧ Turned F w w') (ask_bool_in h' n _ hn hin hx hq (takec_any q _ _ _ _ r0 r1 ((binsert_in hb B1 B2 c1 c2 A1 A2 xs ys hc1 hc2 (h1.keep hB1 rk) (h2.keep hB2 rk) (Nat.le_trans hB1 rk.size) (Nat.le_trans hB2 rk.size)).mono fun e w' hh => ?_))) ⟨_, _, _, rfl⟩ ⟨_, _, _, rfl⟩).mono fun e w' hh => ?_
  · obtain ⟨e1, F', e2, e3, e4⟩ := hh
    have hm := List.mem_of_getElem? hx
    refine ⟨_, _, e1, rfl, rfl, _, (h'.put hin hx hq e2 e3 e4).r, fun j hj => ?_, (Turned.of_keep (F := F) rk).trans e4 fun j hj => Or.inl (h'.fs x hm j hj)⟩
    rcases hj with e | e
    · exact Or.inl e
    · exact Or.inr (Nat.le_trans rk.size e.1)
  · obtain ⟨a, c, e1, rfl, rfl, e2⟩ := hh
    exact ⟨e1, e2⟩
/-- .. that does not fit. -/
theorem rl_take_dim (h : RelR w F p g s k b L) (n : Nat) (hn : n < 18446744073709551616) (hin : winIn b k n = true) (n1 n2 c1 c2 : Nat) (A1 A2 : Option Addr) (hd : n1 ≠ g ∨ n2 ≠ s) :
    Calls Tryz.prog 11 #[.pointer (some ⟨p, 0, none⟩), .int .u64 (n : Int), .agg #[.slice A1 n1 c1, .slice A2 n2 c2]] w fun e w' => e = .returned (.tuple #[.bool false, .int .i64 21]) ∧ Keep w w' := by
  obtain ⟨wb, S, h⟩ := h
  obtain ⟨r0, r1, rk⟩ := row_block w (.slice A1 n1 c1) (.slice A2 n2 c2)
  have h' := h.keep rk
  obtain ⟨x, q, hx, hq, hB, hb⟩ := h'.at_ hin
  refine (rl_take_of _ _ _ n w (Q := fun a c w' => a = .bool false ∧ c = .int .i64 21 ∧ Keep w w') (ask_bool_in h' n _ hn hin hx hq (takec_any q _ _ _ _ r0 r1 ((binsert_dim hb n1 n2 c1 c2 A1 A2 hd).mono fun e w' hh => ⟨_, _, hh.1, rfl, rfl, rk.trans hh.2⟩))) ⟨_, _, _, rfl⟩ ⟨_, _, _, rfl⟩).mono fun e w' hh => ?_
  obtain ⟨a, c, e1, rfl, rfl, e2⟩ := hh
  exact ⟨e1, e2⟩
theorem rl_take_out (h : RelR w F p g s k b L) (n : Nat) (hn : n < 18446744073709551616) (hin : winIn b k n = false) (n1 n2 c1 c2 : Nat) (A1 A2 : Option Addr) :
    Calls Tryz.prog 11 #[.pointer (some ⟨p, 0, none⟩), .int .u64 (n : Int), .agg #[.slice A1 n1 c1, .slice A2 n2 c2]] w fun e w' => e = .returned (.tuple #[.bool false, .int .i64 23]) ∧ Keep w w' := by
  obtain ⟨wb, S, h⟩ := h
  obtain ⟨r0, r1, rk⟩ := row_block w (.slice A1 n1 c1) (.slice A2 n2 c2)
  have h' := h.keep rk
  refine (rl_take_of _ _ _ n w (Q := fun a c w' => a = .bool false ∧ c = .int .i64 23 ∧ Keep w w') ((ask_bool_out h' n _ hn hin).mono fun e w' hh => ⟨_, _, hh.1, rfl, rfl, hh.2 ▸ rk⟩) ⟨_, _, _, rfl⟩ ⟨_, _, _, rfl⟩).mono fun e w' hh => ?_
  obtain ⟨a, c, e1, rfl, rfl, e2⟩ := hh
  exact ⟨e1, e2⟩
end
end Go.Proofs.YtgelalbmhllccaaGreat
/- The landed relay: Send. -/
namespace Go.Proofs.YtgelalbmhllccaaGreat
open Go.RowKit Lin
set_option linter.unusedVariables false
set_option linter.unusedSimpArgs false
section
variable {w : World} {F : Nat → Prop} {g s q : Nat} {B : List (List Nat)}
end
section
variable {w : World} {F : Nat → Prop} {p g s k b wb B1 cb m : Nat} {L : Nat → List (List Nat)} {Ab : Option Addr} {xs : List Nat}
end
end Go.Proofs.YtgelalbmhllccaaGreat
/- The landed relay: a place emptied, Clear, New. -/
namespace Go.Proofs.YtgelalbmhllccaaGreat
open Go.RowKit Lin
set_option linter.unusedVariables false
set_option linter.unusedSimpArgs false
section
variable {w : World} {p wb g s : Nat} {S : List Slot}
set_option maxRecDepth 100000 in
theorem rempty_any (h : RelC w p wb g s S) (hwb : wb < w.heap.size) (i : Nat) (hi : i < 16) :
    Calls Tryz.prog 51 #[.pointer (some ⟨p, 0, none⟩), .int .i64 (i : Int)] w fun e w' => e = .returned (.tuple #[]) ∧ ∃ q F', RelC w' p wb g s (S.set i ⟨some q, F', []⟩) ∧ (∀ j, F' j → w.heap.size ≤ j) ∧ Turned (fun j => j = p) w w' := by
  have x1 := h.c1
  have x2 := h.c2
  obtain ⟨x, hx⟩ : ∃ x, S[i]? = some x := ⟨_, List.getElem?_eq_getElem (by rw [h.len]; exact hi)⟩
  have H := Lib.hid h
  have HWB := Lib.hid hwb
  clear h hwb
  go_enter Tryz.func51, Tryz.ntmps51
  refine wp_region_noPanic ?_
  refine wp_region_held_drew (S := fun wz => wz.cell? ⟨p, 1, none⟩ = some (.int .i64 (g : Int)) ∧ wz.cell? ⟨p, 2, none⟩ = some (.int .i64 (s : Int))) (by kernel_rfl) ⟨x1, x2⟩ (fun hHeld => ?_)
  refine wpAnyH_take (i := 0) (v := ?_) rfl (by kernel_rfl) (by kernel_rfl) (by kernel_rfl) (fun _ _ _ h => h) (Or.inl ⟨by rfl, ?_⟩) hHeld ?_
  rotate_left
  · intro wq hSw
    go_simp
    all_goals with_reducible rfl
  try simp only [Act.put, List.getElem_toArray, List.getElem_cons_succ, List.getElem_cons_zero, List.setIfInBounds_toArray, List.set_cons_zero, List.set_cons_succ]
  refine wpAnyH_take (i := 1) (v := ?_) rfl (by kernel_rfl) (by kernel_rfl) (by kernel_rfl) (fun _ _ _ h => h) (Or.inl ⟨by rfl, ?_⟩) hHeld ?_
  rotate_left
  · intro wq hSw
    go_simp
    all_goals with_reducible rfl
  try simp only [Act.put, List.getElem_toArray, List.getElem_cons_succ, List.getElem_cons_zero, List.setIfInBounds_toArray, List.set_cons_zero, List.set_cons_succ]
  refine wpAnyH_take (i := 2) (v := ?_) rfl (by kernel_rfl) (by kernel_rfl) (by kernel_rfl) (fun _ _ _ h => h) (Or.inl ⟨by rfl, ?_⟩) hHeld ?_
  rotate_left
  · intro wq hSw
    go_simp
    all_goals with_reducible rfl
  try simp only [Act.put, List.getElem_toArray, List.getElem_cons_succ, List.getElem_cons_zero, List.setIfInBounds_toArray, List.set_cons_zero, List.set_cons_succ]
  refine wpAnyH_take (i := 3) (v := ?_) rfl (by kernel_rfl) (by kernel_rfl) (by kernel_rfl) (fun _ _ _ h => h) (Or.inl ⟨by rfl, ?_⟩) hHeld ?_
  rotate_left
  · intro wq hSw
    go_simp
    all_goals with_reducible rfl
  try simp only [Act.put, List.getElem_toArray, List.getElem_cons_succ, List.getElem_cons_zero, List.setIfInBounds_toArray, List.set_cons_zero, List.set_cons_succ]
  refine wpAnyH_take (i := 4) (v := ?_) rfl (by kernel_rfl) (by kernel_rfl) (by kernel_rfl) (fun _ _ _ h => h) (Or.inl ⟨by rfl, ?_⟩) hHeld ?_
  rotate_left
  · intro wq hSw
    go_simp
    all_goals with_reducible rfl
  try simp only [Act.put, List.getElem_toArray, List.getElem_cons_succ, List.getElem_cons_zero, List.setIfInBounds_toArray, List.set_cons_zero, List.set_cons_succ]
  refine wpAnyH_take (i := 5) (v := ?_) rfl (by kernel_rfl) (by kernel_rfl) (by kernel_rfl) (fun _ _ _ h => h) (Or.inl ⟨by rfl, ?_⟩) hHeld ?_
  rotate_left
  · intro wq hSw
    have q0 := hSw.1
    go_simp
    all_goals with_reducible rfl
  try simp only [Act.put, List.getElem_toArray, List.getElem_cons_succ, List.getElem_cons_zero, List.setIfInBounds_toArray, List.set_cons_zero, List.set_cons_succ]
  refine wpAnyH_take (i := 6) (v := ?_) rfl (by kernel_rfl) (by kernel_rfl) (by kernel_rfl) (fun _ _ _ h => h) (Or.inl ⟨by rfl, ?_⟩) hHeld ?_
  rotate_left
  · intro wq hSw
    go_simp
    all_goals with_reducible rfl
  try simp only [Act.put, List.getElem_toArray, List.getElem_cons_succ, List.getElem_cons_zero, List.setIfInBounds_toArray, List.set_cons_zero, List.set_cons_succ]
  refine wpAnyH_take (i := 7) (v := ?_) rfl (by kernel_rfl) (by kernel_rfl) (by kernel_rfl) (fun _ _ _ h => h) (Or.inl ⟨by rfl, ?_⟩) hHeld ?_
  rotate_left
  · intro wq hSw
    go_simp
    all_goals with_reducible rfl
  try simp only [Act.put, List.getElem_toArray, List.getElem_cons_succ, List.getElem_cons_zero, List.setIfInBounds_toArray, List.set_cons_zero, List.set_cons_succ]
  refine wpAnyH_take (i := 8) (v := ?_) rfl (by kernel_rfl) (by kernel_rfl) (by kernel_rfl) (fun _ _ _ h => h) (Or.inl ⟨by rfl, ?_⟩) hHeld ?_
  rotate_left
  · intro wq hSw
    go_simp
    all_goals with_reducible rfl
  try simp only [Act.put, List.getElem_toArray, List.getElem_cons_succ, List.getElem_cons_zero, List.setIfInBounds_toArray, List.set_cons_zero, List.set_cons_succ]
  refine wpAnyH_take (i := 9) (v := ?_) rfl (by kernel_rfl) (by kernel_rfl) (by kernel_rfl) (fun _ _ _ h => h) (Or.inl ⟨by rfl, ?_⟩) hHeld ?_
  rotate_left
  · intro wq hSw
    have q0 := hSw.2
    go_simp
    all_goals with_reducible rfl
  try simp only [Act.put, List.getElem_toArray, List.getElem_cons_succ, List.getElem_cons_zero, List.setIfInBounds_toArray, List.set_cons_zero, List.set_cons_succ]
  refine wpAnyH_take (i := 14) (v := ?_) rfl (by kernel_rfl) (by kernel_rfl) (by kernel_rfl) (fun _ _ _ h => h) (Or.inl ⟨by rfl, ?_⟩) hHeld ?_
  rotate_left
  · intro wq hSw
    go_simp
    all_goals with_reducible rfl
  try simp only [Act.put, List.getElem_toArray, List.getElem_cons_succ, List.getElem_cons_zero, List.setIfInBounds_toArray, List.set_cons_zero, List.set_cons_succ]
  refine wpAnyH_take (i := 15) (v := ?_) rfl (by kernel_rfl) (by kernel_rfl) (by kernel_rfl) (fun _ _ _ h => h) (Or.inl ⟨by rfl, ?_⟩) hHeld ?_
  rotate_left
  · intro wq hSw
    go_simp
    all_goals with_reducible rfl
  try simp only [Act.put, List.getElem_toArray, List.getElem_cons_succ, List.getElem_cons_zero, List.setIfInBounds_toArray, List.set_cons_zero, List.set_cons_succ]
  refine wpAnyH_ready (rs := [10]) (by kernel_rfl) (by simp) ?_
  refine AllReadyH.cons rfl (fun K hK => ?_) AllReadyH.nil
  go_simp
  refine (bnew_in g s H.out.g1 H.out.g2 H.out.s1 H.out.s2 _).mono ?_
  rintro e w1 ⟨q, F', rfl, hb, hf, hk⟩
  have hk1 : Keep w w1 := (Keep.drew (Keep.refl w)).trans hk
  have hf1 : ∀ j, F' j → w.heap.size ≤ j := hf
  have HB := Lib.hid hb
  have HK := Lib.hid hk1
  have HF := Lib.hid hf1
  have z1 : w1.cell? ⟨p, 1, none⟩ = some (.int .i64 (g : Int)) := (H.out.keep hk1).c1
  have z2 : w1.cell? ⟨p, 2, none⟩ = some (.int .i64 (s : Int)) := (H.out.keep hk1).c2
  clear hb hf hk hk1 hf1
  refine hK.out _ _ ⟨z1, z2⟩ (fun hHeld => ?_)
  clear hK K
  try simp only [Act.put, List.getElem_toArray, List.getElem_cons_succ, List.getElem_cons_zero, List.setIfInBounds_toArray, List.set_cons_zero, List.set_cons_succ]
  refine wpAnyH_take (i := 11) (v := ?_) rfl (by kernel_rfl) (by kernel_rfl) (by kernel_rfl) (fun _ _ _ h => h) (Or.inl ⟨by rfl, ?_⟩) hHeld ?_
  rotate_left
  · intro wq hSw
    go_simp
    all_goals with_reducible rfl
  try simp only [Act.put, List.getElem_toArray, List.getElem_cons_succ, List.getElem_cons_zero, List.setIfInBounds_toArray, List.set_cons_zero, List.set_cons_succ]
  refine wpAnyH_take (i := 12) (v := ?_) rfl (by kernel_rfl) (by kernel_rfl) (by kernel_rfl) (fun _ _ _ h => h) (Or.inl ⟨by rfl, ?_⟩) hHeld ?_
  rotate_left
  · intro wq hSw
    go_simp
    all_goals with_reducible rfl
  try simp only [Act.put, List.getElem_toArray, List.getElem_cons_succ, List.getElem_cons_zero, List.setIfInBounds_toArray, List.set_cons_zero, List.set_cons_succ]
  refine wpAnyH_take (i := 13) (v := ?_) rfl (by kernel_rfl) (by kernel_rfl) (by kernel_rfl) (fun _ _ _ h => h) (Or.inl ⟨by rfl, ?_⟩) hHeld ?_
  rotate_left
  · intro wq hSw
    go_simp
    all_goals with_reducible rfl
  try simp only [Act.put, List.getElem_toArray, List.getElem_cons_succ, List.getElem_cons_zero, List.setIfInBounds_toArray, List.set_cons_zero, List.set_cons_succ]
  refine wpAnyH_take (i := 16) (v := ?_) rfl (by kernel_rfl) (by kernel_rfl) (by kernel_rfl) (fun _ _ _ h => h) (Or.inl ⟨by rfl, ?_⟩) hHeld ?_
  rotate_left
  · intro wq hSw
    have q0 := (show (i : Int) < 16 by omega)
    go_simp
    all_goals with_reducible rfl
  try simp only [Act.put, List.getElem_toArray, List.getElem_cons_succ, List.getElem_cons_zero, List.setIfInBounds_toArray, List.set_cons_zero, List.set_cons_succ]
  have hc := (H.out.keep HK.out).cs hx
  have hfr := (H.out.keep HK.out).free (3 + i)
  refine wpAnyH_ready (rs := [17]) (by kernel_rfl) (by simp) ?_
  refine AllReadyH.cons rfl (fun K hK => ?_) AllReadyH.nil
  go_simp
  have hset := H.out.set (x' := ⟨some q, F', []⟩) hi HK.out (Slot.ok_of HB.out) HF.out HWB.out
  have hT : Turned (fun j => j = p) w (w1.setCell ⟨p, 3 + i, none⟩ (Slot.val ⟨some q, F', []⟩)) := (Turned.of_keep HK.out).trans (Turned.set (F := fun j => j = p) w1 ⟨p, 3 + i, none⟩ _ rfl) fun j e => Or.inl e
  have HS := Lib.hid hset
  have HT := Lib.hid hT
  have z1' : (w1.setCell ⟨p, 3 + i, none⟩ (.pointer (some ⟨q, 0, none⟩))).cell? ⟨p, 1, none⟩ = some (.int .i64 (g : Int)) := hset.c1
  have z2' : (w1.setCell ⟨p, 3 + i, none⟩ (.pointer (some ⟨q, 0, none⟩))).cell? ⟨p, 2, none⟩ = some (.int .i64 (s : Int)) := hset.c2
  clear hset hT
  refine hK.out _ _ ⟨z1', z2'⟩ (fun hHeld => ?_)
  clear hK K
  refine wpAnyH_done (by kernel_rfl) ?_ _
  refine NoPanic.normal ?_
  clear hHeld
  go_wp2_with fail
  go_end0
  exact ⟨rfl, q, F', HS.out, HF.out, HT.out⟩

end
/-- The first i places are emptied. -/
def Cleared (w wr : World) (p wb g s : Nat) (S S' : List Slot) (i : Nat) : Prop :=
  RelC wr p wb g s S' ∧ (∀ j x, S'[j]? = some x → (j < i → (∃ q, x.p = some q) ∧ x.B = [] ∧ ∀ b, x.F b → w.heap.size ≤ b) ∧ (i ≤ j → S[j]? = some x)) ∧ Turned (fun j => j = p) w wr
section
variable {w : World} {p wb g s k b : Nat} {S : List Slot}
theorem Cleared.start (h : RelC w p wb g s S) : Cleared w w p wb g s S S 0 := ⟨h, fun j x hx => ⟨fun e => by omega, fun _ => hx⟩, Turned.refl _ _⟩
theorem Cleared.step {w1 w2 : World} {S1 : List Slot} {i q : Nat} {F' : Nat → Prop} (h : Cleared w w1 p wb g s S S1 i) (r : RelC w2 p wb g s (S1.set i ⟨some q, F', []⟩)) (hf : ∀ j, F' j → w1.heap.size ≤ j) (t : Turned (fun j => j = p) w1 w2) : Cleared w w2 p wb g s S (S1.set i ⟨some q, F', []⟩) (i + 1) := by
  refine ⟨r, fun j x hx => ?_, h.2.2.trans t fun j e => Or.inl e⟩
  rcases set_get hx with ⟨rfl, rfl⟩ | ⟨hj, hx2⟩
  · exact ⟨fun _ => ⟨⟨q, rfl⟩, rfl, fun b hb => Nat.le_trans h.2.2.size (hf b hb)⟩, fun e => by omega⟩
  · exact ⟨fun e => (h.2.1 j x hx2).1 (by omega), fun e => (h.2.1 j x hx2).2 (by omega)⟩
set_option maxRecDepth 100000 in
theorem rclear_c (h : RelC w p wb g s S) (hw : WinR w wb k b) :
    Calls Tryz.prog 35 #[.pointer (some ⟨p, 0, none⟩)] w fun e w' => e = .returned (.tuple #[]) ∧ ∃ S', Cleared w w' p wb g s S S' k := by
  have HM := Lib.hid (rmade_any h.c0)
  have c0 := h.c0
  have HW := Lib.hid (width_any hw)
  have hk := hw.high
  have HH := Lib.hid h
  have HWI := Lib.hid hw
  clear h hw
  go_enter Tryz.func35, Tryz.ntmps35
  go_wp2_with fail
  refine HM.out.mono ?_
  rintro e w1 ⟨rfl, rfl⟩
  go_wp2_with fail
  refine HW.out.mono ?_
  rintro e w1 ⟨rfl, rfl⟩
  go_wp2_with fail
  have HST := Lib.hid (Cleared.start HH.out)
  clear HM HW c0
  go_loopw [11] (fun i wr => ∃ (m : Nat) (S' : List Slot), m ≤ k ∧ i = .int .i64 (m : Int) ∧ Cleared w1 wr p wb g s S S' m) (fun i _ => k - (intOf i).toNat)
  case atStart => exact ⟨0, _, by omega, rfl, HST.out⟩
  case round =>
    obtain ⟨m, S', hm, rfl, hC⟩ := hrel
    have HC := Lib.hid hC
    clear hC HST
    by_cases hlt : m < k
    · have e2 : (m : Int) < (k : Int) := by omega
      go_wp2_with fail
      refine (rempty_any HC.out.1 (Nat.lt_of_lt_of_le HWI.out.lt HC.out.2.2.size) m (by omega)).mono ?_
      rintro e w2 ⟨rfl, q, F', h1, h2, h3⟩
      have HN := Lib.hid (HC.out.step h1 h2 h3)
      clear h1 h2 h3
      go_wp2_with fail
      go_roundw
      case rel => exact ⟨m + 1, _, by omega, by go_num, HN.out⟩
      case measure => simp [intOf]; omega
    · obtain rfl : k = m := by omega
      go_wp2_with fail
      go_end0
      exact ⟨rfl, S', HC.out⟩
end
end Go.Proofs.YtgelalbmhllccaaGreat
/- The landed relay: New. -/
namespace Go.Proofs.YtgelalbmhllccaaGreat
open Go.RowKit Lin
set_option linter.unusedVariables false
set_option linter.unusedSimpArgs false
section
variable {w : World} {F : Nat → Prop} {p g s k b wb : Nat} {S : List Slot}
theorem RelA.nothing (c : RelC w p wb g s S) (win : WinR w wb k b) (h : ∀ j x, S[j]? = some x → (j < k → (∃ q, x.p = some q) ∧ x.B = []) ∧ (k ≤ j → x.p = none)) (fp : F p) (fw : F wb) (fs : ∀ x ∈ S, ∀ q, x.F q → F q) (lt : ∀ q, F q → q < w.heap.size) : RelA w F p g s k b (fun _ => []) wb S :=
  ⟨c, win, fun i x hx => ⟨fun e => by
    rcases Nat.lt_or_ge i k with hi | hi
    · obtain ⟨q, hq⟩ := ((h i x hx).1 hi).1
      rw [hq] at e; cases e
    · exact hi, fun e => (h i x hx).2 e⟩, fp, fw, fs, lt, fun n hn x hx => ((h _ x hx).1 (Nat.mod_lt _ (by have := win.low; omega))).2, fun _ _ => rfl, fun i x hi hx _ => ((h i x hx).1 hi).2⟩
def slots0 : List Slot := List.replicate 16 Slot.none_
theorem slots0_get {i : Nat} {x : Slot} (h : slots0[i]? = some x) : x = Slot.none_ := by
  have := List.mem_of_getElem? h
  exact (List.mem_replicate.1 this).2
theorem RelC.fresh (hb : w.heap[p]? = some (.cells (Value.pointer (some ⟨wb, 0, none⟩) :: Value.int .i64 (g : Int) :: Value.int .i64 (s : Int) :: slots0.map Slot.val).toArray 89 (0, 0))) (hne : p ≠ wb) (h1 : 1 ≤ g) (h2 : g ≤ 255) (h3 : 1 ≤ s) (h4 : s ≤ 65535) : RelC w p wb g s slots0 :=
  ⟨hb, rfl, fun x hx => by obtain rfl := (List.mem_replicate.1 hx).2; exact Slot.none_ok _ _ _, fun i j x y _ hx _ b hb => by rw [slots0_get hx] at hb; exact hb.elim, fun x hx b hb => by obtain rfl := (List.mem_replicate.1 hx).2; exact hb.elim, hne, h1, h2, h3, h4⟩
end
section
variable {g s k : Nat}
set_option maxRecDepth 100000 in
theorem relnew_in (h1 : 1 ≤ g) (h2 : g ≤ 255) (h3 : 1 ≤ s) (h4 : s ≤ 65535) (h5 : 1 ≤ k) (h6 : k ≤ 16) (w : World) :
    Calls Tryz.prog 8 #[.int .i64 (g : Int), .int .i64 (s : Int), .int .i64 (k : Int)] w fun e w' => ∃ p F, e = .returned (.tuple #[.pointer (some ⟨p, 0, none⟩), .int .i64 0]) ∧ RelR w' F p g s k 0 (fun _ => []) ∧ (∀ q, F q → w.heap.size ≤ q) ∧ Keep w w' := by
  have HH := Lib.hid (And.intro h1 (And.intro h2 (And.intro h3 (And.intro h4 (And.intro h5 h6)))))
  clear h1 h2 h3 h4 h5 h6
  go_enter Tryz.func8, Tryz.ntmps8
  go_wp2_with fail
  refine (new_in k HH.out.2.2.2.2.1 HH.out.2.2.2.2.2 w).mono ?_
  rintro e w1 ⟨rfl, hW, k1⟩
  have HW := Lib.hid hW
  have HK1 := Lib.hid k1
  clear hW k1
  go_wp2_with fail
  refine (bnew_in g s HH.out.1 HH.out.2.1 HH.out.2.2.1 HH.out.2.2.2.1 w1).mono ?_
  rintro e w2 ⟨q0, F0, rfl, -, -, k2⟩
  have HW2 := Lib.hid (HW.out.keep k2)
  have HK2 := Lib.hid (HK1.out.trans k2)
  clear k2 HW HK1
  go_wp2_with fail
  have hbl := heap_alloc_new w2 (.cells (Value.pointer (some ⟨w.heap.size, 0, none⟩) :: Value.int .i64 (g : Int) :: Value.int .i64 (s : Int) :: slots0.map Slot.val).toArray 89)
  obtain ⟨w3, hw3⟩ : ∃ w3, w2.alloc (.cells (Value.pointer (some ⟨w.heap.size, 0, none⟩) :: Value.int .i64 (g : Int) :: Value.int .i64 (s : Int) :: slots0.map Slot.val).toArray 89) = w3 := ⟨_, rfl⟩
  have hs1 := HW2.out.lt
  have hk3 : Keep w2 w3 := by rw [← hw3]; exact (Keep.refl w2).alloc _ _
  have hz3 : w3.heap.size = w2.heap.size + 1 := by rw [← hw3]; simp
  rw [hw3] at hbl
  have hC := RelC.fresh hbl (by omega) HH.out.1 HH.out.2.1 HH.out.2.2.1 HH.out.2.2.2.1
  have HC := Lib.hid hC
  have HW3 := Lib.hid (HW2.out.keep hk3)
  have HK3 := Lib.hid (HK2.out.trans hk3)
  have HS1 := Lib.hid hs1
  have HZ3 := Lib.hid hz3
  clear hC hbl hk3 hz3 hs1 HK2 HW2
  replace hw3 : w2.alloc (.cells #[Value.pointer (some ⟨w.heap.size, 0, none⟩), Value.int .i64 (g : Int), Value.int .i64 (s : Int), Value.pointer none, Value.pointer none, Value.pointer none, Value.pointer none, Value.pointer none, Value.pointer none, Value.pointer none, Value.pointer none, Value.pointer none, Value.pointer none, Value.pointer none, Value.pointer none, Value.pointer none, Value.pointer none, Value.pointer none, Value.pointer none] 89) = w3 := hw3
  rw [hw3]
  refine (rclear_c HC.out HW3.out).mono ?_
  rintro e w4 ⟨rfl, S', hS⟩
  have HS := Lib.hid hS
  clear hS
  go_wp2_with fail
  go_ret2
  have hk4 : Keep w w4 := HS.out.2.2.keep HK3.out fun i e => by have := HK3.out.size; have := HS1.out; rw [e]; omega
  have hsz := hk4.size
  have hsl := HS.out.1.lt
  have hsz4 := HS.out.2.2.size
  refine ⟨w2.heap.size, fun q => w.heap.size ≤ q ∧ q < w4.heap.size, rfl, (RelA.nothing HS.out.1 (HW3.out.turned HS.out.2.2 (by have := HS1.out; omega)) (fun j x hx => ⟨fun e => ⟨((HS.out.2.1 j x hx).1 e).1, ((HS.out.2.1 j x hx).1 e).2.1⟩, fun e => by rw [slots0_get ((HS.out.2.1 j x hx).2 e)]; rfl⟩) ⟨by have := HS1.out; omega, hsl⟩ ⟨Nat.le_refl _, by have := HS1.out; omega⟩ (fun x hx q hq => ?_) fun q hq => hq.2).r, fun q hq => hq.1, hk4⟩
  obtain ⟨j, hj⟩ := List.getElem?_of_mem hx
  refine ⟨?_, (HS.out.1.ok x hx).lt q hq⟩
  rcases Nat.lt_or_ge j k with e | e
  · have := ((HS.out.2.1 j x hj).1 e).2.2 q hq; have := HK3.out.size; omega
  · rw [slots0_get ((HS.out.2.1 j x hj).2 e)] at hq; exact hq.elim
end
end Go.Proofs.YtgelalbmhllccaaGreat
/- The landed relay: Base, In, Move. -/
namespace Go.Proofs.YtgelalbmhllccaaGreat
open Go.RowKit Lin
set_option linter.unusedVariables false
set_option linter.unusedSimpArgs false
/-- Those of E are emptied. -/
def Emptied (w wr : World) (p wb g s : Nat) (S S' : List Slot) (E G : Nat → Prop) : Prop :=
  RelC wr p wb g s S' ∧ (∀ j x, S'[j]? = some x → (E j → (∃ q, x.p = some q) ∧ x.B = [] ∧ ∀ b, x.F b → w.heap.size ≤ b) ∧ (¬ E j → S[j]? = some x)) ∧ Turned G w wr
section
variable {w : World} {F : Nat → Prop} {p g s k b wb : Nat} {L : Nat → List (List Nat)} {S : List Slot}
theorem Emptied.start {w1 : World} {G : Nat → Prop} (h : RelC w1 p wb g s S) (t : Turned G w w1) {E : Nat → Prop} (hE : ∀ j, ¬ E j) : Emptied w w1 p wb g s S S E G := ⟨h, fun j x hx => ⟨fun e => (hE j e).elim, fun _ => hx⟩, t⟩
theorem Emptied.step {w1 w2 : World} {S1 : List Slot} {i q : Nat} {F' : Nat → Prop} {E E' G : Nat → Prop} (h : Emptied w w1 p wb g s S S1 E G) (hG : G p) (r : RelC w2 p wb g s (S1.set i ⟨some q, F', []⟩)) (hf : ∀ j, F' j → w1.heap.size ≤ j) (t : Turned (fun j => j = p) w1 w2) (hE : ∀ j, E' j ↔ j = i ∨ E j) : Emptied w w2 p wb g s S (S1.set i ⟨some q, F', []⟩) E' G := by
  refine ⟨r, fun j x hx => ?_, h.2.2.trans t fun j e => Or.inl (by rw [e]; exact hG)⟩
  rcases set_get hx with ⟨rfl, rfl⟩ | ⟨hj, hx2⟩
  · exact ⟨fun _ => ⟨⟨q, rfl⟩, rfl, fun b hb => Nat.le_trans h.2.2.size (hf b hb)⟩, fun e => (e ((hE j).2 (Or.inl rfl))).elim⟩
  · refine ⟨fun e => (h.2.1 j x hx2).1 ?_, fun e => (h.2.1 j x hx2).2 fun e2 => e ((hE j).2 (Or.inr e2))⟩
    rcases (hE j).1 e with e2 | e2
    · exact (hj e2).elim
    · exact e2
/-- What stays behind a move. -/
def moveL (c k : Nat) (L : Nat → List (List Nat)) : Nat → List (List Nat) := fun n => if winIn c k n = true then L n else []
theorem winGone_iff {n c : Nat} : n ∈ winGone b k c ↔ winIn b k n = true ∧ winIn c k n = false := by
  rw [winGone, List.mem_filter, winIn_mem b k n, decide_eq_true_eq]
  cases winIn c k n <;> simp
/-- Behind the loop over what has gone. -/
theorem RelA.moved {w' : World} {S' : List Slot} {c : Nat} {G : Nat → Prop} (h : RelA w F p g s k b L wb S) (hE : Emptied w w' p wb g s S S' (fun j => ∃ n, n ∈ winGone b k c ∧ n % k = j) G) (win : WinR w' wb k c) : RelA w' (fun q => F q ∨ w.heap.size ≤ q ∧ q < w'.heap.size) p g s k c (moveL c k L) wb S' := by
  have h1 := h.win.low
  have was : ∀ j x, S'[j]? = some x → ∃ y, S[j]? = some y := fun j x hx => by
    have : j < S.length := by rw [h.c.len, ← hE.1.len]; exact (List.getElem?_eq_some_iff.1 hx).1
    exact ⟨_, List.getElem?_eq_getElem this⟩
  have hno : ∀ j x, S'[j]? = some x → (∃ n, n ∈ winGone b k c ∧ n % k = j) ∨ S[j]? = some x := fun j x hx => by
    by_cases e : ∃ n, n ∈ winGone b k c ∧ n % k = j
    · exact Or.inl e
    · exact Or.inr ((hE.2.1 j x hx).2 e)
  -- a place at which no number of the new window stands that was in the old one
  have emp : ∀ j x, j < k → S'[j]? = some x → (∀ m, winIn b k m = true → m % k = j → winIn c k m = false) → x.B = [] := fun j x hj hx hm => by
    rcases hno j x hx with e | e
    · exact ((hE.2.1 j x hx).1 e).2.1
    · by_cases e2 : ∃ m, winIn b k m = true ∧ m % k = j
      · obtain ⟨m, hm1, hm2⟩ := e2
        exact ((hE.2.1 j x hx).1 ⟨m, winGone_iff.2 ⟨hm1, hm m hm1 hm2⟩, hm2⟩).2.1
      · exact h.free j x hj e fun n hn e3 => e2 ⟨n, hn, e3⟩
  refine ⟨hE.1, win, fun i x hx => ?_, Or.inl h.fp, Or.inl h.fw, fun x hx q hq => ?_, fun q hq => ?_, fun n hn x hx => ?_, fun n hn => by rw [moveL, if_neg (by rw [hn]; decide)], fun i x hi hx hf => emp i x hi hx fun m hm1 hm2 => ?_⟩
  · rcases hno i x hx with e | e
    · obtain ⟨q, hq⟩ := ((hE.2.1 i x hx).1 e).1
      obtain ⟨n, hn, e2⟩ := e
      have := Nat.mod_lt n (show 0 < k by omega)
      rw [hq]
      exact ⟨(fun e3 => by cases e3), fun e3 => by omega⟩
    · exact h.made i x e
  · obtain ⟨j, hj⟩ := List.getElem?_of_mem hx
    rcases hno j x hj with e | e
    · exact Or.inr ⟨((hE.2.1 j x hj).1 e).2.2 q hq, (hE.1.ok x hx).lt q hq⟩
    · exact Or.inl (h.fs x (List.mem_of_getElem? e) q hq)
  · rcases hq with e | e
    · exact Nat.lt_of_lt_of_le (h.lt q e) hE.2.2.size
    · exact e.2
  · rw [moveL, if_pos hn]
    have hm := Nat.mod_lt n (show 0 < k by omega)
    cases hb : winIn b k n with
    | true =>
      rcases hno _ x hx with ⟨m, hm1, hm2⟩ | e
      · obtain ⟨g1, g2⟩ := winGone_iff.1 hm1
        rw [slot_inj h1 g1 hb hm2, hn] at g2; cases g2
      · exact h.in_ n hb x e
    | false =>
      rw [h.out n hb]
      refine emp _ x hm hx fun m hm1 hm2 => ?_
      cases e : winIn c k m with
      | false => rfl
      | true => rw [slot_inj h1 e hn hm2, hb] at hm1; cases hm1
  · cases e : winIn c k m with
    | false => rfl
    | true => exact (hf m e hm2).elim
set_option maxRecDepth 100000 in
theorem rl_move_out (h : RelR w F p g s k b L) (c : Nat) (hc : topN < c) : Calls Tryz.prog 17 #[.pointer (some ⟨p, 0, none⟩), .int .u64 (c : Int)] w fun e w' => e = .returned (.int .i64 1) ∧ Keep w w' := by
  obtain ⟨wb, S, h⟩ := h
  have c0 := h.c.c0
  have HM := Lib.hid (rmade_any c0)
  have HC := Lib.hid (copy_any h.win)
  have H := Lib.hid h
  clear h
  go_enter Tryz.func17, Tryz.ntmps17
  go_wp2_with fail
  refine HM.out.mono ?_
  rintro e w1 ⟨rfl, rfl⟩
  go_wp2_with fail
  refine HC.out.mono ?_
  rintro e w2 ⟨rfl, -, k2⟩
  have c02 := (H.out.keep k2).c.c0
  have HK2 := Lib.hid k2
  clear k2
  go_wp2_with fail
  refine (move_out c hc (H.out.keep HK2.out).win).mono ?_
  rintro e w3 ⟨rfl, rfl⟩
  go_wp2_with fail
  go_loopw [31] (fun i wr => i = .int .i64 0 ∧ wr = w3) (fun _ _ => 0)
  case atStart => exact ⟨rfl, rfl⟩
  case round =>
    obtain ⟨rfl, rfl⟩ := hrel
    go_wp2_with fail
    go_ret
    exact ⟨rfl, HK2.out⟩
set_option maxRecDepth 100000 in
theorem rl_move_in (h : RelR w F p g s k b L) (c : Nat) (hc : c ≤ topN) : Calls Tryz.prog 17 #[.pointer (some ⟨p, 0, none⟩), .int .u64 (c : Int)] w fun e w' => e = .returned (.int .i64 0) ∧ ∃ F', RelR w' F' p g s k c (moveL c k L) ∧ (∀ q, F' q → F q ∨ w.heap.size ≤ q) ∧ Turned F w w' := by
  obtain ⟨wb, S, h⟩ := h
  have c0 := h.c.c0
  have HM := Lib.hid (rmade_any c0)
  have HC := Lib.hid (copy_any h.win)
  have H := Lib.hid h
  clear h
  go_enter Tryz.func17, Tryz.ntmps17
  go_wp2_with fail
  refine HM.out.mono ?_
  rintro e w1 ⟨rfl, rfl⟩
  go_wp2_with fail
  refine HC.out.mono ?_
  rintro e w2 ⟨rfl, hW, k2⟩
  have c02 := (H.out.keep k2).c.c0
  have HK2 := Lib.hid k2
  have HW := Lib.hid hW
  clear k2 hW
  go_wp2_with fail
  refine (move_in c hc (H.out.keep HK2.out).win).mono ?_
  rintro e w3 ⟨A, n, q, rfl, hO, hW3, t3⟩
  have HT3 := Lib.hid t3
  have HO := Lib.hid hO
  have HW3 := Lib.hid hW3
  have hwl := H.out.win.lt
  have hpl := H.out.c.lt
  have hne := H.out.c.ne
  have hT0 : Turned (fun j => j = p ∨ j = wb) w1 w3 := (Turned.of_keep HK2.out).trans t3 fun j e => Or.inl (Or.inr e)
  have hWc : WinR w3 w1.heap.size k b := HW.out.turned t3 (by omega)
  have hC3 : RelC w3 p wb g s S := (H.out.keep HK2.out).c.turned t3 hne fun x hx q hq e => (H.out.c.off x hx q hq).2 e
  have HE0 := Lib.hid (Emptied.start (E := fun j => ∃ i x, i < 0 ∧ (winGone b k c)[i]? = some x ∧ x % k = j) hC3 hT0 fun j hj => by
    obtain ⟨i, x, h1, _⟩ := hj
    omega)
  have HWC := Lib.hid hWc
  have HL := Lib.hid hO.length
  have HU := Lib.hid hO.ins
  have HLT := Lib.hid (And.intro hwl (And.intro hpl hne))
  have hn16 : n ≤ 16 := by rw [← hO.length]; exact Nat.le_trans (winGone_le b k c) H.out.win.high
  clear t3 hO hW3 hwl hpl hne hT0 hWc hC3 HM HC HW HO HT3 c02 c0
  go_wp2_with fail
  go_loopw [31] (fun i wr => ∃ (m : Nat) (S' : List Slot), m ≤ n ∧ i = .int .i64 (m : Int) ∧ Emptied w1 wr p wb g s S S' (fun j => ∃ i x, i < m ∧ (winGone b k c)[i]? = some x ∧ x % k = j) (fun j => j = p ∨ j = wb) ∧ Turned (fun j => j = p) w3 wr) (fun i _ => n - (intOf i).toNat)
  case atStart => exact ⟨0, _, by omega, rfl, HE0.out, Turned.refl _ _⟩
  case round =>
    obtain ⟨m, S', hm, rfl, hE, hT⟩ := hrel
    have HE := Lib.hid hE
    have HT := Lib.hid hT
    clear hE hT HE0
    by_cases hlt : m < n
    · have e2 : (m : Int) < (n : Int) := by omega
      have e1 : (0 : Int) ≤ (m : Int) := by omega
      obtain ⟨bb, off, x, rfl, hb1, hb2, hx, hcell⟩ := HU.out.at_ hlt
      have hcw : wr.cell? ⟨bb, off + m, none⟩ = some (.int .u64 (x : Int)) := HT.out.cell hcell (by have := HK2.out.size; have := HLT.out; show ¬ bb = p; omega)
      have hxm := List.mem_of_getElem? hx
      obtain ⟨g1, g2⟩ := winGone_iff.1 hxm
      have hxl : x < 18446744073709551616 := by
        have := (winIn_iff b k x).1 g1
        have h3 : endN b k ≤ topN := Nat.min_le_right _ _
        unfold topN at h3; omega
      have HSL := Lib.hid (slot_in (HWC.out.turned HT.out (by have := HLT.out; omega)) hxl g1 rfl)
      have HX := Lib.hid hx
      have HM := Lib.hid (Nat.mod_lt x (show 0 < k from H.out.win.low))
      clear hcell hb1 hb2 hx hxm g1 g2 hxl
      obtain ⟨t, ht⟩ : ∃ t, x % k = t := ⟨_, rfl⟩
      rw [ht] at HSL HM
      have HTT := Lib.hid ht
      clear ht
      go_wp2_with fail
      refine HSL.out.mono ?_
      rintro e wr ⟨rfl, rfl⟩
      go_wp2_with fail
      refine (rempty_any HE.out.1 (Nat.lt_of_lt_of_le HLT.out.1 HE.out.2.2.size) t (by have := HM.out; have := H.out.win.high; omega)).mono ?_
      rintro e w4 ⟨rfl, q2, F2, h1, h2, h3⟩
      have HN := Lib.hid (HE.out.step (Or.inl rfl) h1 h2 h3 (E' := fun j => ∃ i x, i < m + 1 ∧ (winGone b k c)[i]? = some x ∧ x % k = j) fun j => by
        constructor
        · rintro ⟨i, y, i1, i2, i3⟩
          rcases Nat.lt_or_ge i m with e | e
          · exact Or.inr ⟨i, y, e, i2, i3⟩
          · obtain rfl : i = m := by omega
            rw [HX.out] at i2
            obtain rfl := Option.some.inj i2
            exact Or.inl (i3.symm.trans HTT.out)
        · rintro (e | ⟨i, y, i1, i2, i3⟩)
          · exact ⟨m, x, by omega, HX.out, HTT.out.trans e.symm⟩
          · exact ⟨i, y, by omega, i2, i3⟩)
      have HTN := Lib.hid (HT.out.trans h3 fun j e => Or.inl e)
      clear h1 h2 h3
      go_wp2_with fail
      go_roundw
      case rel => exact ⟨m + 1, _, by omega, by go_num, HN.out, HTN.out⟩
      case measure => simp [intOf]; omega
    · obtain rfl : n = m := by omega
      go_wp2_with fail
      go_ret
      have hEE : (fun j => ∃ i x, i < n ∧ (winGone b k c)[i]? = some x ∧ x % k = j) = fun j => ∃ x, x ∈ winGone b k c ∧ x % k = j := funext fun j => propext ⟨(fun ⟨i, x, _, h2, h3⟩ => ⟨x, List.mem_of_getElem? h2, h3⟩), fun ⟨x, h2, h3⟩ => by
        obtain ⟨i, hi⟩ := List.getElem?_of_mem h2
        exact ⟨i, x, by rw [← HL.out]; exact (List.getElem?_eq_some_iff.1 hi).1, hi, h3⟩⟩
      have hE := HE.out
      rw [hEE] at hE
      refine ⟨rfl, _, (H.out.moved hE (HW3.out.turned HT.out (fun e => HLT.out.2.2 e.symm))).r, fun q hq => ?_, hE.2.2.mono fun i _ e => ?_⟩
      · rcases hq with e | e
        · exact Or.inl e
        · exact Or.inr e.1
      · rcases e with rfl | rfl
        · exact H.out.fp
        · exact H.out.fw
end
end Go.Proofs.YtgelalbmhllccaaGreat
/- The landed relay: Ranks. -/
namespace Go.Proofs.YtgelalbmhllccaaGreat
open Go.RowKit Lin
set_option linter.unusedVariables false
set_option linter.unusedSimpArgs false
/-- Such a list, to be read. -/
def RkIn (w : World) (F : Nat → Prop) (A : Option Addr) (n : Nat) (l : List (Nat × Nat)) : Prop :=
  l.length = n ∧ (0 < n → ∃ b off, A = some ⟨b, off, none⟩ ∧ F b ∧ b < w.heap.size ∧ ∀ (i : Nat) (x : Nat × Nat), l[i]? = some x → w.cell? ⟨b, off + i * 2, none⟩ = some (.int .u64 (x.1 : Int)) ∧ w.cell? ⟨b, off + i * 2 + 1, none⟩ = some (.int .i64 (x.2 : Int)))
theorem RkIn.turned {w w' : World} {F G : Nat → Prop} {A : Option Addr} {n : Nat} {l : List (Nat × Nat)} (h : RkIn w F A n l) (k : Turned G w w') (hd : ∀ b, F b → ¬ G b) : RkIn w' F A n l := ⟨h.1, fun hn => by
  obtain ⟨b, off, e, hb, hl, hc⟩ := h.2 hn
  exact ⟨b, off, e, hb, Nat.lt_of_lt_of_le hl k.size, fun i x hi => ⟨k.cell (hc i x hi).1 (hd b hb), k.cell (hc i x hi).2 (hd b hb)⟩⟩⟩
theorem RkIn.keep {w w' : World} {F : Nat → Prop} {A : Option Addr} {n : Nat} {l : List (Nat × Nat)} (h : RkIn w F A n l) (k : Keep w w') : RkIn w' F A n l := h.turned (Turned.of_keep (F := fun _ => False) k) fun _ _ e => e
theorem RkIn.nil (w : World) (F : Nat → Prop) (A : Option Addr) : RkIn w F A 0 [] := ⟨rfl, fun h => absurd h (by omega)⟩
theorem RkIn.at_ {w : World} {F : Nat → Prop} {A : Option Addr} {n : Nat} {l : List (Nat × Nat)} (h : RkIn w F A n l) {i : Nat} (hi : i < n) : ∃ b off x, A = some ⟨b, off, none⟩ ∧ F b ∧ b < w.heap.size ∧ l[i]? = some x ∧ w.cell? ⟨b, off + i * 2, none⟩ = some (.int .u64 (x.1 : Int)) ∧ w.cell? ⟨b, off + i * 2 + 1, none⟩ = some (.int .i64 (x.2 : Int)) := by
  obtain ⟨b, off, e, hb, hl, hc⟩ := h.2 (by omega)
  have hi' : i < l.length := by rw [h.1]; exact hi
  exact ⟨b, off, l[i], e, hb, hl, List.getElem?_eq_getElem hi', (hc i _ (List.getElem?_eq_getElem hi')).1, (hc i _ (List.getElem?_eq_getElem hi')).2⟩
namespace OwnRk
variable {w w' : World} {base n c : Nat} {A : Option Addr} {l : List (Nat × Nat)}
end OwnRk
section
variable {w : World} {F : Nat → Prop} {p g s k b : Nat} {L : Nat → List (List Nat)}
end
end Go.Proofs.YtgelalbmhllccaaGreat
/- Rows of structs: many appended; slices of them. -/
namespace Go.Proofs.YtgelalbmhllccaaGreat
open Go.RowKit
set_option linter.unusedVariables false
end Go.Proofs.YtgelalbmhllccaaGreat
