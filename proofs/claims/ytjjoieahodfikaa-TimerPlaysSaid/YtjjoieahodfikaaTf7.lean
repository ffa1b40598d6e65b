/- The document's own timers: Tick. -/
import Derived.Test.YtjjoieahodfikaaQac
import Derived.Test.YtjjoieahodfikaaQae
namespace Go.Proofs.Ytjjoieahodfikaa
open Go.RowKit Go.Maps Tmr
set_option linter.unusedVariables false
set_option linter.unusedSimpArgs false
set_option maxRecDepth 100000
/-- What is due among the first i. -/
def dueN (c : Nat) (l : List Alarm) (i : Nat) : List Alarm := (l.take i).foldl (fun d a => if c < a.due then d else putDue a d) []
theorem dueN_succ {c : Nat} {l : List Alarm} {i : Nat} {a : Alarm} (h : l[i]? = some a) : dueN c l (i + 1) = if c < a.due then dueN c l i else putDue a (dueN c l i) := by
  unfold dueN
  rw [List.take_add_one, h]
  simp
theorem putDue_place (a : Alarm) : ∀ d : List Alarm, ∃ p, p ≤ d.length ∧ (∀ j b, j < p → d[j]? = some b → b.due ≤ a.due) ∧ (∀ b, d[p]? = some b → ¬ b.due ≤ a.due) ∧ putDue a d = d.take p ++ [a] ++ d.drop p
  | [] => ⟨0, Nat.le_refl _, fun j b hj => by omega, fun b hb => by simp at hb, rfl⟩
  | b :: r => by
    by_cases hb : b.due ≤ a.due
    · obtain ⟨p, h1, h2, h3, h4⟩ := putDue_place a r
      refine ⟨p + 1, by simpa using h1, fun j x hj hx => ?_, fun x hx => h3 x (by simpa using hx), ?_⟩
      · cases j with
        | zero => simp at hx; subst hx; exact hb
        | succ j => exact h2 j x (by omega) (by simpa using hx)
      · unfold putDue
        rw [if_pos hb, h4]; rfl
    · refine ⟨0, Nat.zero_le _, fun j x hj => by omega, fun x hx => by simp at hx; subst hx; exact hb, ?_⟩
      unfold putDue
      rw [if_neg hb]; rfl
theorem OwnZ.lower {w : World} {base base' n c : Nat} {A : Option Addr} {zs : List Int} (h : OwnZ w base A n c zs) (hb : base' ≤ base) : OwnZ w base' A n c zs := by
  refine ⟨h.1, ?_⟩
  rcases h.2 with hv | ⟨g, cap, cur, hv, hg, r⟩
  · exact Or.inl hv
  · exact Or.inr ⟨g, cap, cur, hv, by omega, r⟩
/-- One in between: three appends. -/
theorem ins_runs {v : World} {base nd cd p : Nat} {Ad : Option Addr} {dl : List Alarm} (h : SAt almV 3 v base Ad nd cd dl) (hp : p ≤ nd) (hn : nd < 100000) (a : Alarm) :
    ∃ A2 c2 v1 A3 c3 v3 A4 c4 v4, (Builtin.append_ #[28, 28] 28 #[.slice none 0 0, .slice Ad p cd]).run Try.prog v = .ok (.slice A2 p c2) v1 ∧
      (Builtin.append_ #[28, 28] 28 #[.slice A2 p c2, .slice (some ⟨v1.heap.size, 0, none⟩) 1 1]).run Try.prog (v1.alloc (.cells #[.int .i64 (a.name : Int), .int .u64 (a.every : Int), .int .u64 (a.due : Int)] 49)) = .ok (.slice A3 (p + 1) c3) v3 ∧
      (Builtin.append_ #[28, 28] 28 #[.slice A3 (p + 1) c3, .slice (dropK 3 Ad cd p) (nd - p) (cd - p)]).run Try.prog v3 = .ok (.slice A4 (nd + 1) c4) v4 ∧
      SAt almV 3 v4 v.heap.size A4 (nd + 1) c4 (dl.take p ++ [a] ++ dl.drop p) ∧ Keep v v1 ∧ Keep v v4 := by
  have hln := h.length
  obtain ⟨hs1, hn1⟩ := h.headcells almL hp
  obtain ⟨A2, c2, v1, r1, s1, t1, _, o1⟩ := run_append_sa (P := Try.prog) (w := v) (base := v.heap.size) (m := p) (cx := cd) (A := none) (B := Ad) (n := 0) (c := 0) (ws := []) (news := dl.take p) almL (by decide) Try.underlying28 infoAlm rfl (SAt.nothing v _) (by rw [List.length_take]; omega) hs1 hn1 (by omega) (by decide) (Nat.le_refl _) 28
  have k1 : Keep v v1 := t1.keep_new fun i e => by simp [Value.ownBlock] at e
  rw [Nat.zero_add, List.nil_append] at s1
  rw [Nat.zero_add] at r1 o1
  have k2 : Keep v1 (v1.alloc (.cells #[.int .i64 (a.name : Int), .int .u64 (a.every : Int), .int .u64 (a.due : Int)] 49)) := (Keep.refl v1).alloc _ _
  obtain ⟨A3, c3, v3, r2, s2, t2, _, o2⟩ := run_append_sa (P := Try.prog) (w := v1.alloc (.cells #[.int .i64 (a.name : Int), .int .u64 (a.every : Int), .int .u64 (a.due : Int)] 49)) (base := v.heap.size) (m := 1) (cx := 1) (B := some ⟨v1.heap.size, 0, none⟩) (news := [a]) almL (by decide) Try.underlying28 infoAlm rfl (s1.keep k2) rfl (fun ad ea j u hu => by
    injection ea with ea; subst ea
    rw [Addr.add_lit, cell_of_row _ _ _ _ _ _ (heap_alloc_new v1 _), Nat.zero_add]
    simpa [almV] using hu) (fun e => nomatch e) (by omega) (by decide) (Nat.le_trans k1.size k2.size) 28
  have hnew2 : ∀ b, (Value.slice A2 p c2).ownBlock = some b → v.heap.size ≤ b := fun b e => (s1.block b e).1
  have k3 : Keep v v3 := t2.keep (k1.trans k2) hnew2
  obtain ⟨hs3, hn3⟩ := (h.keep k3).tailcells almL hp
  obtain ⟨A4, c4, v4, r3, s3, t3, _, o3⟩ := run_append_sa (P := Try.prog) (w := v3) (base := v.heap.size) (m := nd - p) (cx := cd - p) (B := dropK 3 Ad cd p) (news := dl.drop p) almL (by decide) Try.underlying28 infoAlm rfl s2 (by rw [List.length_drop]; omega) hs3 hn3 (by omega) (by decide) k3.size 28
  rw [show p + 1 + (nd - p) = nd + 1 by omega] at r3 s3 o3
  have hnew3 : ∀ b, (Value.slice A3 (p + 1) c3).ownBlock = some b → v.heap.size ≤ b := fun b e => (s2.block b e).1
  exact ⟨A2, c2, v1, A3, c3, v3, A4, c4, v4, r1, r2, r3, s3, k1, t3.keep k3 hnew3⟩
section
variable {w : World} {B g clk n c : Nat} {A : Option Addr} {l : List Alarm}
set_option maxHeartbeats 8000000 in
theorem dtick_any (h : TmD w B g clk A n c l) (q : Nat) (hq : q < 18446744073709551616) :
    Calls Try.prog 17 #[.pointer (some ⟨g, 0, none⟩), .int .u64 (q : Int)] w fun r w' => ∃ Az nz cz, r = .returned (.tuple #[.slice Az nz cz, .int .i64 (tickE clk q)]) ∧ OwnZ w' w.heap.size Az nz cz (tickZ clk l q) ∧ TmD w' B g (tickC clk q) A n c (tickR clk l q) ∧ Turned (FpD g A n c) w w' := by
  have c0 := h.c0
  have hc := h.clock
  by_cases hb : maxT < clk + q
  · rw [show tickE clk q = 1 from if_pos hb, show tickZ clk l q = [] from if_pos hb, show tickC clk q = clk from if_pos hb, show tickR clk l q = l from if_pos hb]
    have H := Lib.hid h
    by_cases h1 : 1099511627776 < q
    · have b1 : decide ((1099511627776 : Int) < (q : Int)) = true := decide_eq_true (by omega)
      have b2 : decide (1099511627776 < q) = true := decide_eq_true h1
      clear h hc hb hq h1
      go_enter Try.func17, Try.ntmps17
      go_wp2_with fail
      go_ret2
      exact ⟨none, 0, 0, rfl, OwnZ.none_ _ _, H.out, Turned.refl _ _⟩
    · have b1 : decide ((1099511627776 : Int) < (q : Int)) = false := decide_eq_false (by omega)
      have b2 : decide (1099511627776 < q) = false := decide_eq_false h1
      obtain ⟨k, hk⟩ : ∃ k, clk + q = k := ⟨_, rfl⟩
      have e2 : IntKind.u64.wrap ((clk : Int) + (q : Int)) = (k : Int) := by unfold maxT at hc; rw [IntWalk.u64_in _ (by omega)]; omega
      have b3 : decide ((1099511627776 : Int) < (k : Int)) = true := decide_eq_true (by unfold maxT at hb; omega)
      have b4 : decide (1099511627776 < k) = true := decide_eq_true (by unfold maxT at hb; omega)
      clear h hc hb hq h1 hk
      go_enter Try.func17, Try.ntmps17
      go_wp2_with fail
      go_ret2
      exact ⟨none, 0, 0, rfl, OwnZ.none_ _ _, H.out, Turned.refl _ _⟩
  · rw [show tickE clk q = 0 from if_neg hb, show tickZ clk l q = namesZ (dueL (clk + q) l) from if_neg hb, show tickC clk q = clk + q from if_neg hb, show tickR clk l q = tickL (clk + q) l from if_neg hb]
    obtain ⟨k, hk⟩ : ∃ k, clk + q = k := ⟨_, rfl⟩
    have e2 : IntKind.u64.wrap ((clk : Int) + (q : Int)) = (k : Int) := by unfold maxT at hb; rw [IntWalk.u64_in _ (by omega)]; omega
    have b1 : decide ((1099511627776 : Int) < (q : Int)) = false := decide_eq_false (by unfold maxT at hb; omega)
    have b2 : decide (1099511627776 < q) = false := decide_eq_false (by unfold maxT at hb; omega)
    have b3 : decide ((1099511627776 : Int) < (k : Int)) = false := decide_eq_false (by unfold maxT at hb; omega)
    have b4 : decide (1099511627776 < k) = false := decide_eq_false (by unfold maxT at hb; omega)
    rw [hk]
    have f0 := h.f0
    obtain ⟨w1, hw1⟩ : ∃ w1, w.setCell ⟨g, 0, none⟩ (.int .u64 (k : Int)) = w1 := ⟨_, rfl⟩
    have t1 : Turned (fun b => b = g) w w1 := hw1 ▸ Turned.set (F := fun b => b = g) w ⟨g, 0, none⟩ _ rfl
    have hs1 : w1.heap.size = w.heap.size := by rw [← hw1]; simp [World.setCell]
    have h1 : TmD w1 B g k A n c l := ⟨by rw [← hw1]; simp [World.setCell, Array.getElem?_modify, h.block], h.als.turned t1 h.ap, h.ap, h.low, h.rising, by omega, h.fine, h.few⟩
    have T1 := Lib.hid t1
    have H1 := Lib.hid h1
    have HS1 := Lib.hid hs1
    have HR := Lib.hid h.rising
    have HLN := Lib.hid h.als.length
    have HF := Lib.hid h.few
    have HFP : Hid (∀ b, FpD g A n c b → b < w.heap.size) := Lib.hid fun b hb => (FpD.low h hb).2
    have HEND : Hid (tickL k l = againN k (dueL k l) l (dueL k l).length) := Lib.hid (by unfold againN; rw [List.take_length]; exact (tick_fold h.rising).symm)
    obtain ⟨d, hde⟩ : ∃ d, dueL k l = d := ⟨_, rfl⟩
    have HIN : Hid (∀ a ∈ d, isIn a.name l) := Lib.hid fun a ha => ⟨a, ((mem_dueL HR.out).1 (hde ▸ ha)).1, rfl⟩
    have HEND2 := HEND.out
    rw [hde] at HEND2
    have HE2 := Lib.hid HEND2
    have HDE := Lib.hid hde
    rw [hde]
    clear h hc hb hq hk t1 h1 hs1 hde HEND2
    subst hw1
    go_enter Try.func17, Try.ntmps17
    go_wp2_with fail
    go_loopw [6, 7] (fun dv iv wr => ∃ (i nd cd : Nat) (Ad : Option Addr), dv = .slice Ad nd cd ∧ iv = .int .i64 i ∧ i ≤ n ∧ SAt almV 3 wr w.heap.size Ad nd cd (dueN k l i) ∧ TmD wr B g k A n c l ∧ Keep (w.setCell ⟨g, 0, none⟩ (.int .u64 (k : Int))) wr ∧ nd ≤ i) (fun dv iv _ => n - (intOf iv).toNat)
    case atStart => exact ⟨0, 0, 0, none, rfl, rfl, Nat.zero_le _, SAt.nothing _ _, H1.out, Keep.refl _, Nat.le_refl _⟩
    case round =>
      obtain ⟨i, nd, cd, Ad, rfl, rfl, hi, hs, hd, hkp, hnd⟩ := hrel
      have HSA := Lib.hid hs
      have HD := Lib.hid hd
      have HK := Lib.hid hkp
      have HND := Lib.hid hnd
      have cg1 := hd.c1
      have cg0 := hd.c0
      have g0 : (0 : Int) ≤ (i : Int) := Int.natCast_nonneg _
      have rw1 : IntKind.i64.wrap ((i : Int) + 1) = (i : Int) + 1 := IntWalk.i64_in _ (by have := HF.out; omega)
      clear hs hd hkp hnd
      by_cases hlt : i < n
      · obtain ⟨bA, oA, a, hA, hla, a0, a1, a2, hfa⟩ := HD.out.one hlt
        subst hA
        have g1 : (i : Int) < (n : Int) := by omega
        have kA : Keep wr (wr.alloc (.cells #[.int .i64 (a.name : Int), .int .u64 (a.every : Int), .int .u64 (a.due : Int)] 49)) := (Keep.refl wr).alloc _ _
        have HSA2 := Lib.hid (HSA.out.keep kA)
        have HD2 := Lib.hid (HD.out.keep kA)
        have HK2 := Lib.hid (HK.out.trans kA)
        have x0 : (wr.alloc (.cells #[.int .i64 (a.name : Int), .int .u64 (a.every : Int), .int .u64 (a.due : Int)] 49)).cell? ⟨wr.heap.size, 0, none⟩ = some (.int .i64 (a.name : Int)) := by simp
        have x1 : (wr.alloc (.cells #[.int .i64 (a.name : Int), .int .u64 (a.every : Int), .int .u64 (a.due : Int)] 49)).cell? ⟨wr.heap.size, 1, none⟩ = some (.int .u64 (a.every : Int)) := by simp
        have x2 : (wr.alloc (.cells #[.int .i64 (a.name : Int), .int .u64 (a.every : Int), .int .u64 (a.due : Int)] 49)).cell? ⟨wr.heap.size, 2, none⟩ = some (.int .u64 (a.due : Int)) := by simp
        have y0 := HD2.out.c0
        have y1 := HD2.out.c1
        have HLT := Lib.hid hlt
        have HLA := Lib.hid hla
        have HSZ2 : Hid (w.heap.size ≤ (wr.alloc (.cells #[.int .i64 (a.name : Int), .int .u64 (a.every : Int), .int .u64 (a.due : Int)] 49)).heap.size) := Lib.hid (by have := HK2.out.size; rw [HS1.out] at this; exact this)
        by_cases hdu : k < a.due
        · have z1 : decide ((k : Int) < (a.due : Int)) = true := decide_eq_true (by omega)
          have z2 : decide (k < a.due) = true := decide_eq_true hdu
          have HN : Hid (dueN k l (i + 1) = dueN k l i) := Lib.hid (by rw [dueN_succ hla, if_pos hdu])
          clear hla hfa hlt hi hdu kA
          go_wp2_with fail
          go_quiet (fail)
          have kq : Keep (wr.alloc (.cells #[.int .i64 (a.name : Int), .int .u64 (a.every : Int), .int .u64 (a.due : Int)] 49)) ((wr.alloc (.cells #[.int .i64 (a.name : Int), .int .u64 (a.every : Int), .int .u64 (a.due : Int)] 49)).drewN nq) := (Keep.refl (wr.alloc (.cells #[.int .i64 (a.name : Int), .int .u64 (a.every : Int), .int .u64 (a.due : Int)] 49))).drewN nq
          have HSA3 := Lib.hid (HSA2.out.keep kq)
          have HD3 := Lib.hid (HD2.out.keep kq)
          have HK3 := Lib.hid (HK2.out.trans kq)
          clear kq x0 x1 x2 y0 y1
          go_wp2_with fail
          go_roundw
          case rel => exact ⟨i + 1, nd, cd, Ad, rfl, by go_num, HLT.out, by rw [HN.out]; exact HSA3.out, HD3.out, HK3.out, by have := HND.out; omega⟩
          case measure => simp [intOf]; have := HLT.out; omega
        · have z1 : decide ((k : Int) < (a.due : Int)) = false := decide_eq_false (by omega)
          have z2 : decide (k < a.due) = false := decide_eq_false hdu
          obtain ⟨p, hp1, hp2, hp3, hput⟩ := putDue_place a (dueN k l i)
          have HN : Hid (dueN k l (i + 1) = (dueN k l i).take p ++ [a] ++ (dueN k l i).drop p) := Lib.hid (by rw [dueN_succ hla, if_neg hdu]; exact hput)
          rw [HSA.out.length] at hp1
          have HP1 := Lib.hid hp1
          have HP2 := Lib.hid hp2
          have HP3 := Lib.hid hp3
          clear hla hfa hlt hi hdu kA hp1 hp2 hp3 hput
          go_wp2_with fail
          go_quiet (fail)
          have kq : Keep (wr.alloc (.cells #[.int .i64 (a.name : Int), .int .u64 (a.every : Int), .int .u64 (a.due : Int)] 49)) ((wr.alloc (.cells #[.int .i64 (a.name : Int), .int .u64 (a.every : Int), .int .u64 (a.due : Int)] 49)).drewN nq) := (Keep.refl (wr.alloc (.cells #[.int .i64 (a.name : Int), .int .u64 (a.every : Int), .int .u64 (a.due : Int)] 49))).drewN nq
          go_wp2_with fail
          obtain ⟨nq0, hnq⟩ : ∃ nq0, nq0 = nq := ⟨_, rfl⟩
          subst hnq
          go_loopw [9] (fun kv wx => ∃ kk q2 : Nat, kv = .int .i64 kk ∧ kk ≤ p ∧ wx = (wr.alloc (.cells #[.int .i64 (a.name : Int), .int .u64 (a.every : Int), .int .u64 (a.due : Int)] 49)).drewN q2) (fun kv _ => p - (intOf kv).toNat)
          case atStart => exact ⟨0, nq0, rfl, Nat.zero_le _, rfl⟩
          case round =>
            obtain ⟨kk, q2, rfl, hkk, hwx⟩ := hrel
            subst hwx
            have j0 : (0 : Int) ≤ (kk : Int) := Int.natCast_nonneg _
            have rk : IntKind.i64.wrap ((kk : Int) + 1) = (kk : Int) + 1 := IntWalk.i64_in _ (by have := HP1.out; have := HND.out; have := HLT.out; have := HF.out; omega)
            by_cases hkp : kk < p
            · obtain ⟨bD, oD, b, hAd, _, _, hbk, hbc⟩ := HSA2.out.at_ almL (i := kk) (by have := HP1.out; omega)
              subst hAd
              have u2 := hbc 2 _ rfl
              have v2 : ((wr.alloc (.cells #[.int .i64 (a.name : Int), .int .u64 (a.every : Int), .int .u64 (a.due : Int)] 49)).drewN q2).cell? ⟨bD, oD + kk * 3 + 2, none⟩ = some (.int .u64 (b.due : Int)) := u2
              have hle := HP2.out kk b hkp hbk
              have j1 : (kk : Int) < (nd : Int) := by have := HP1.out; omega
              have m1 : decide ((b.due : Int) ≤ (a.due : Int)) = true := decide_eq_true (by omega)
              have m2 : decide (b.due ≤ a.due) = true := decide_eq_true hle
              have x2q : ((wr.alloc (.cells #[.int .i64 (a.name : Int), .int .u64 (a.every : Int), .int .u64 (a.due : Int)] 49)).drewN q2).cell? ⟨wr.heap.size, 2, none⟩ = some (.int .u64 (a.due : Int)) := x2
              have HKP := Lib.hid hkp
              clear hle hbk hbc hkp hkk
              go_wp2_with fail
              go_quiet (fail)
              go_wp2_with fail
              go_roundw
              case rel => exact ⟨kk + 1, q2 + nq, by go_num, HKP.out, by first | rfl | exact World.drewN_drewN ..⟩
              case measure => simp [intOf]; have := HKP.out; omega
            · obtain rfl : kk = p := by omega
              have v2 : ((wr.alloc (.cells #[.int .i64 (a.name : Int), .int .u64 (a.every : Int), .int .u64 (a.due : Int)] 49)).drewN q2).cell? ⟨wr.heap.size, 2, none⟩ = some (.int .u64 (a.due : Int)) := x2
              have EXIT : Hid (∀ b : Bool, True) := Lib.hid fun _ => trivial
              by_cases hkn : kk < nd
              · obtain ⟨bD, oD, b, hAd, _, _, hbk, hbc⟩ := HSA2.out.at_ almL (i := kk) hkn
                subst hAd
                have u2 := hbc 2 _ rfl
                have v2' : ((wr.alloc (.cells #[.int .i64 (a.name : Int), .int .u64 (a.every : Int), .int .u64 (a.due : Int)] 49)).drewN q2).cell? ⟨bD, oD + kk * 3 + 2, none⟩ = some (.int .u64 (b.due : Int)) := u2
                have hle := HP3.out b hbk
                have j1 : (kk : Int) < (nd : Int) := by omega
                have m1 : decide ((b.due : Int) ≤ (a.due : Int)) = false := decide_eq_false (by omega)
                have m2 : decide (b.due ≤ a.due) = false := decide_eq_false hle
                clear hle hbk hbc hkp hkk hkn
                go_wp2_with fail
                go_quiet (fail)
                go_upto_region 14 with fail
                obtain ⟨v, hv⟩ : ∃ v, (wr.alloc (.cells #[.int .i64 (a.name : Int), .int .u64 (a.every : Int), .int .u64 (a.due : Int)] 49)).drewN (q2 + nq) = v := ⟨_, rfl⟩
                have kv : Keep (wr.alloc (.cells #[.int .i64 (a.name : Int), .int .u64 (a.every : Int), .int .u64 (a.due : Int)] 49)) v := by rw [← hv]; exact (Keep.refl (wr.alloc (.cells #[.int .i64 (a.name : Int), .int .u64 (a.every : Int), .int .u64 (a.due : Int)] 49))).drewN (q2 + nq)
                have hS := HSA2.out.keep kv
                obtain ⟨A2, c2, v1, A3, c3, v3, A4, c4, v4, r1, r2, r3, s4, k1, k4⟩ := ins_runs hS HP1.out (by have := HND.out; have := HLT.out; have := HF.out; omega) a
                have q1 := run_head_sa (P := Try.prog) (t := 28) (k := 3) undAlm infoAlmE nd cd kk (some ⟨bD, oD, none⟩) (by have := HP1.out; have := hS.cap; omega)
                have q3 := run_tail_sa (P := Try.prog) (t := 28) (k := 3) undAlm infoAlmE nd cd kk (some ⟨bD, oD, none⟩) HP1.out (x := (kk : Int)) rfl
                have n0 : v1.cell? ⟨wr.heap.size, 0, none⟩ = some (.int .i64 (a.name : Int)) := (World.cell?_of_block ((kv.trans k1).block _ (by show wr.heap.size < _; simp))).trans x0
                have n1 : v1.cell? ⟨wr.heap.size, 1, none⟩ = some (.int .u64 (a.every : Int)) := (World.cell?_of_block ((kv.trans k1).block _ (by show wr.heap.size < _; simp))).trans x1
                have n2 : v1.cell? ⟨wr.heap.size, 2, none⟩ = some (.int .u64 (a.due : Int)) := (World.cell?_of_block ((kv.trans k1).block _ (by show wr.heap.size < _; simp))).trans x2
                have S4 := Lib.hid (s4.lower (show w.heap.size ≤ v.heap.size from Nat.le_trans HSZ2.out kv.size))
                have D4 := Lib.hid (HD2.out.keep (kv.trans k4))
                have K4 := Lib.hid (HK2.out.trans (kv.trans k4))
                rw [← hv] at r1
                obtain ⟨D, hD⟩ : ∃ x, dropK 3 (some ⟨bD, oD, none⟩) cd kk = x := ⟨_, rfl⟩
                obtain ⟨m2x, hm2⟩ : ∃ x, nd - kk = x := ⟨_, rfl⟩
                obtain ⟨c5, hc5⟩ : ∃ x, cd - kk = x := ⟨_, rfl⟩
                rw [hD, hm2, hc5] at r3
                simp only [hD, hm2, hc5] at q3
                obtain ⟨nd1, hnd1⟩ : ∃ x, nd + 1 = x := ⟨_, rfl⟩
                rw [hnd1] at r3 S4
                obtain ⟨p1, hp1e⟩ : ∃ x, kk + 1 = x := ⟨_, rfl⟩
                rw [hp1e] at r2 r3
                have HND1 := Lib.hid hnd1
                clear hS s4 k1 k4 kv hv hD hm2 hc5 hnd1 hp1e x0 x1 x2 y0 y1 v2
                go_upto_region 15 with (at_builtin; refine wpList_append_is rfl _ _ 28 rfl rfl rfl r1 ?_)
                clear r1 q1
                go_upto_region 16 with (at_builtin; refine wpList_append_is rfl _ _ 28 rfl rfl rfl r2 ?_)
                clear r2
                go_wp2_with (at_builtin; refine wpList_append_is rfl _ _ 28 rfl rfl rfl r3 ?_)
                go_roundw
                case rel => exact ⟨i + 1, nd1, c4, A4, rfl, by go_num, HLT.out, by rw [HN.out]; exact S4.out, D4.out, K4.out, by have := HND.out; have := HND1.out; omega⟩
                case measure => simp [intOf]; have := HLT.out; omega
              · have j1 : ¬ (kk : Int) < (nd : Int) := by omega
                have j2 : decide ((kk : Int) < (nd : Int)) = false := decide_eq_false j1
                have j3 : ¬ kk < nd := hkn
                have j4 : decide (kk < nd) = false := decide_eq_false hkn
                clear hkp hkk hkn
                go_wp2_with fail
                go_quiet (fail)
                go_upto_region 14 with fail
                obtain ⟨v, hv⟩ : ∃ v, (wr.alloc (.cells #[.int .i64 (a.name : Int), .int .u64 (a.every : Int), .int .u64 (a.due : Int)] 49)).drewN (q2 + nq) = v := ⟨_, rfl⟩
                have kv : Keep (wr.alloc (.cells #[.int .i64 (a.name : Int), .int .u64 (a.every : Int), .int .u64 (a.due : Int)] 49)) v := by rw [← hv]; exact (Keep.refl (wr.alloc (.cells #[.int .i64 (a.name : Int), .int .u64 (a.every : Int), .int .u64 (a.due : Int)] 49))).drewN (q2 + nq)
                have hS := HSA2.out.keep kv
                obtain ⟨A2, c2, v1, A3, c3, v3, A4, c4, v4, r1, r2, r3, s4, k1, k4⟩ := ins_runs hS HP1.out (by have := HND.out; have := HLT.out; have := HF.out; omega) a
                have q1 := run_head_sa (P := Try.prog) (t := 28) (k := 3) undAlm infoAlmE nd cd kk Ad (by have := HP1.out; have := hS.cap; omega)
                have q3 := run_tail_sa (P := Try.prog) (t := 28) (k := 3) undAlm infoAlmE nd cd kk Ad HP1.out (x := (kk : Int)) rfl
                have n0 : v1.cell? ⟨wr.heap.size, 0, none⟩ = some (.int .i64 (a.name : Int)) := (World.cell?_of_block ((kv.trans k1).block _ (by show wr.heap.size < _; simp))).trans x0
                have n1 : v1.cell? ⟨wr.heap.size, 1, none⟩ = some (.int .u64 (a.every : Int)) := (World.cell?_of_block ((kv.trans k1).block _ (by show wr.heap.size < _; simp))).trans x1
                have n2 : v1.cell? ⟨wr.heap.size, 2, none⟩ = some (.int .u64 (a.due : Int)) := (World.cell?_of_block ((kv.trans k1).block _ (by show wr.heap.size < _; simp))).trans x2
                have S4 := Lib.hid (s4.lower (show w.heap.size ≤ v.heap.size from Nat.le_trans HSZ2.out kv.size))
                have D4 := Lib.hid (HD2.out.keep (kv.trans k4))
                have K4 := Lib.hid (HK2.out.trans (kv.trans k4))
                rw [← hv] at r1
                obtain ⟨D, hD⟩ : ∃ x, dropK 3 Ad cd kk = x := ⟨_, rfl⟩
                obtain ⟨m2x, hm2⟩ : ∃ x, nd - kk = x := ⟨_, rfl⟩
                obtain ⟨c5, hc5⟩ : ∃ x, cd - kk = x := ⟨_, rfl⟩
                rw [hD, hm2, hc5] at r3
                simp only [hD, hm2, hc5] at q3
                obtain ⟨nd1, hnd1⟩ : ∃ x, nd + 1 = x := ⟨_, rfl⟩
                rw [hnd1] at r3 S4
                obtain ⟨p1, hp1e⟩ : ∃ x, kk + 1 = x := ⟨_, rfl⟩
                rw [hp1e] at r2 r3
                have HND1 := Lib.hid hnd1
                clear hS s4 k1 k4 kv hv hD hm2 hc5 hnd1 hp1e x0 x1 x2 y0 y1 v2
                go_upto_region 15 with (at_builtin; refine wpList_append_is rfl _ _ 28 rfl rfl rfl r1 ?_)
                clear r1 q1
                go_upto_region 16 with (at_builtin; refine wpList_append_is rfl _ _ 28 rfl rfl rfl r2 ?_)
                clear r2
                go_wp2_with (at_builtin; refine wpList_append_is rfl _ _ 28 rfl rfl rfl r3 ?_)
                go_roundw
                case rel => exact ⟨i + 1, nd1, c4, A4, rfl, by go_num, HLT.out, by rw [HN.out]; exact S4.out, D4.out, K4.out, by have := HND.out; have := HND1.out; omega⟩
                case measure => simp [intOf]; have := HLT.out; omega
      · have hin : i = n := by omega
        have hS0 := HSA.out
        have hdd : dueN k l i = dueL k l := by
          unfold dueN dueL
          rw [hin, ← HLN.out, List.take_length]
        rw [hdd, HDE.out] at hS0
        have HSD := Lib.hid hS0
        have HDL := Lib.hid hS0.length
        have HTT : Hid (Turned (FpD g A n c) w wr) := Lib.hid ((T1.out.mono fun b _ e => Or.inl e).then_keep HK.out)
        have HSZ : Hid (w.heap.size ≤ wr.heap.size) := Lib.hid (by have := HK.out.size; rw [HS1.out] at this; exact this)
        have HND2 : Hid (nd ≤ 100000) := Lib.hid (by have := HND.out; have := HF.out; omega)
        have g1 : ¬ (i : Int) < (n : Int) := by omega
        have g2 : decide ((i : Int) < (n : Int)) = false := decide_eq_false g1
        obtain ⟨wv, hwv⟩ : ∃ wv, wv = wr := ⟨_, rfl⟩
        have HWV := Lib.hid hwv
        clear hin hlt hi hS0 hdd hwv
        go_wp2_with fail
        go_loopw [11, 12] (fun zv jv wx => ∃ (j cz : Nat) (Az : Option Addr), zv = .slice Az j cz ∧ jv = .int .i64 j ∧ j ≤ nd ∧ OwnZ wx wv.heap.size Az j cz (namesZ (d.take j)) ∧ TmD wx B g k A n c (againN k d l j) ∧ SAt almV 3 wx w.heap.size Ad nd cd d ∧ Turned (FpD g A n c) w wx ∧ wv.heap.size ≤ wx.heap.size ∧ (∀ b, (Value.slice Ad nd cd).ownBlock = some b → b < wv.heap.size)) (fun zv jv _ => nd - (intOf jv).toNat)
        case atStart => exact ⟨0, 0, none, rfl, rfl, Nat.zero_le _, by simpa [namesZ] using OwnZ.none_ _ _, HD.out, HSD.out, HTT.out, by rw [HWV.out]; exact Nat.le_refl _, fun b hb => by rw [HWV.out]; exact (HSD.out.block b hb).2⟩
        case round =>
          obtain ⟨j, cz, Az, rfl, rfl, hj, hz, ht, hs, htt, hsz, hbl⟩ := hrel
          have HZ := Lib.hid hz
          have HT := Lib.hid ht
          have HSx := Lib.hid hs
          have HTx := Lib.hid htt
          have HSZx := Lib.hid hsz
          have HBL := Lib.hid hbl
          have j0 : (0 : Int) ≤ (j : Int) := Int.natCast_nonneg _
          have rj : IntKind.i64.wrap ((j : Int) + 1) = (j : Int) + 1 := IntWalk.i64_in _ (by have := HND2.out; omega)
          by_cases hjl : j < nd
          · obtain ⟨bD, oD, b, hAd, _, _, hbk, hbc⟩ := hs.at_ almL (i := j) hjl
            subst hAd
            have u0 := hbc 0 _ rfl
            rw [Nat.add_zero] at u0
            have j1 : (j : Int) < (nd : Int) := by omega
            have hin := againN_in (c := k) (d := d) j (HIN.out b (List.mem_of_getElem? hbk))
            have hE : isE (againN k d l j) (b.name : Int) = 0 := isE_yes (by obtain ⟨x, hx, e⟩ := hin; exact ⟨x, hx, by rw [e]⟩)
            have hR : againR k (againN k d l j) (b.name : Int) = againN k d l (j + 1) := by
              unfold againR
              rw [if_pos hE, againN_succ hbk]; rfl
            have HER := Lib.hid (And.intro hE hR)
            have HNZ : Hid (namesZ (d.take j) ++ [(b.name : Int)] = namesZ (d.take (j + 1))) := Lib.hid (by rw [List.take_add_one, hbk]; simp [namesZ])
            have kA : Keep wr (wr.alloc (.cells #[.int .i64 (b.name : Int)] 3)) := (Keep.refl wr).alloc _ _
            have o3 := HZ.out.keep kA
            have hc3 : (wr.alloc (.cells #[.int .i64 (b.name : Int)] 3)).cell? ⟨wr.heap.size, 0, none⟩ = some (.int .i64 (b.name : Int)) := by simp
            have HB3 : Hid (wv.heap.size ≤ (wr.alloc (.cells #[.int .i64 (b.name : Int)] 3)).heap.size) := Lib.hid (Nat.le_trans hsz kA.size)
            have HN3 : Hid (j ≤ 1000000) := Lib.hid (by have := HND2.out; omega)
            have D3 := Lib.hid (HT.out.keep kA)
            have S3 := Lib.hid (HSx.out.keep kA)
            have T3 := Lib.hid (HTx.out.then_keep kA)
            have HJ := Lib.hid hjl
            have cg := ht.c1
            have D4 : Hid (∀ w4, Turned (fun x => (Value.slice Az j cz).ownBlock = some x) (wr.alloc (.cells #[.int .i64 (b.name : Int)] 3)) w4 → TmD w4 B g k A n c (againN k d l j) ∧ SAt almV 3 w4 w.heap.size (some ⟨bD, oD, none⟩) nd cd d ∧ Turned (FpD g A n c) w w4) := Lib.hid fun w4 t4 =>
              have hw : w.heap.size ≤ wv.heap.size := by rw [HWV.out]; exact HSZ.out
              ⟨D3.out.turned t4 (fun e => by have := (o3.low _ e).1; have := HFP.out g (Or.inl rfl); omega) (fun y hy e => by have := (o3.low _ e).1; have := HFP.out y (Or.inr hy); omega), S3.out.turned t4 (fun y hy e => by have := (o3.low _ e).1; have := HBL.out y hy; omega), T3.out.trans t4 fun y e => Or.inr (by have := (o3.low _ e).1; omega)⟩
            clear hj hz ht hs htt hsz hbl hjl hbk hbc hin hE hR kA
            have u3 : (wr.alloc (.cells #[.int .i64 (b.name : Int)] 3)).cell? ⟨bD, oD + j * 3, none⟩ = some (.int .i64 (b.name : Int)) := (World.cell?_of_block (((Keep.refl wr).alloc _ _).block _ (World.block_lt_of_cell? wr _ u0))).trans u0
            go_upto_region 22 with (at_builtin; refine wpList_append_int rfl _ _ rfl rfl o3 rfl hc3 HN3.out HB3.out ?_; intro A4 c4 w4 o4 t4)
            obtain ⟨h4, s4, tt4⟩ := D4.out w4 t4
            have u4 : w4.cell? ⟨bD, oD + j * 3, none⟩ = some (.int .i64 (b.name : Int)) := t4.cell u3 (fun e => by have := (o3.low bD e).1; have := HBL.out bD rfl; omega)
            clear u3
            have CA := Lib.hid (dagain_any h4 (b.name : Int))
            rw [HER.out.1, HER.out.2] at CA
            have cg4 := h4.c1
            rw [HNZ.out] at o4
            have O4 := Lib.hid o4
            have S4 := Lib.hid s4
            have TT4 := Lib.hid tt4
            have HSZ4 : Hid (wv.heap.size ≤ w4.heap.size) := Lib.hid (by have := t4.size; have := HB3.out; omega)
            clear o4 s4 tt4 t4 h4 o3 hc3 u0 cg
            go_wp2_with fail
            refine CA.out.mono ?_
            rintro r w5 ⟨rfl, h5, t5⟩
            have H5 := Lib.hid h5
            have hw : Hid (w.heap.size ≤ wv.heap.size) := Lib.hid (by rw [HWV.out]; exact HSZ.out)
            have O5 := Lib.hid (O4.out.turned t5 fun y hy e => by have := (O4.out.low y hy).1; have := HFP.out y e; have := hw.out; omega)
            have S5 := Lib.hid (S4.out.turned t5 fun y hy e => by have := (S4.out.block y hy).1; have := HFP.out y e; omega)
            have TT5 := Lib.hid (TT4.out.trans t5 fun y e => Or.inl e)
            have HSZ5 : Hid (wv.heap.size ≤ w5.heap.size) := Lib.hid (Nat.le_trans HSZ4.out t5.size)
            clear h5 t5
            go_wp2_with fail
            go_roundw
            case rel => exact ⟨j + 1, c4, A4, rfl, by go_num, HJ.out, O5.out, H5.out, S5.out, TT5.out, HSZ5.out, HBL.out⟩
            case measure => simp [intOf]; have := HJ.out; omega
          · have hje : j = nd := by omega
            have HRES : Hid (OwnZ wr w.heap.size Az j cz (namesZ d) ∧ TmD wr B g k A n c (tickL k l)) := Lib.hid ⟨by
              have h := HZ.out
              rw [List.take_of_length_le (by have := HDL.out; omega)] at h
              exact h.lower (by rw [HWV.out]; exact HSZ.out), by
              have h := HT.out
              rw [hje, ← HDL.out, ← HE2.out] at h
              exact h⟩
            have j1 : ¬ (j : Int) < (nd : Int) := by omega
            have j2 : decide ((j : Int) < (nd : Int)) = false := decide_eq_false j1
            clear hj hz ht hs htt hsz hbl hjl hje
            go_wp2_with fail
            go_ret2
            exact ⟨Az, j, cz, rfl, HRES.out.1, HRES.out.2, HTx.out⟩
end
end Go.Proofs.Ytjjoieahodfikaa
