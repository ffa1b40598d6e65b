/- The landed timers: New, Set, Stop, Again; calls of none. -/
import Derived.Test.YtjjoieahodfikaaQab
import Derived.Deep.DeepCutAuto
import Derived.Deep.CutBlock
import Derived.BigQuiet
namespace Go.Proofs.Ytjjoieahodfikaa
open Go.RowKit Go.Maps Tmr
set_option linter.unusedVariables false
set_option linter.unusedSimpArgs false
set_option maxRecDepth 100000
theorem tnew_any (w : World) : Calls Try.prog 9 #[] w fun r w' => ∃ g mb, r = .returned (.pointer (some ⟨g, 0, none⟩)) ∧ TmL w' w.heap.size g mb 0 [] ∧ Keep w w' := by
  obtain ⟨w1, hw1⟩ : ∃ w1, w.alloc (.map #[] 0) = w1 := ⟨_, rfl⟩
  have m1 : MapA w1 w.heap.size [] := hw1 ▸ MapA.made w
  have k1 : Keep w w1 := hw1 ▸ (Keep.refl w).allocMap _ _
  have s1 : w1.heap.size = w.heap.size + 1 := by rw [← hw1]; simp
  have hmm : (Instr.makeMap 60 none).run Try.prog w = .ok (.map (some w.heap.size)) w1 := by rw [← hw1]; exact run_makeMap _ _
  have k2 : Keep w1 (w1.alloc (.cells #[.int .u64 0, .map (some w.heap.size)] 62)) := (Keep.refl w1).alloc _ _
  have H : Hid (TmL (w1.alloc (.cells #[.int .u64 0, .map (some w.heap.size)] 62)) w.heap.size w1.heap.size w.heap.size 0 [] ∧ Keep w (w1.alloc (.cells #[.int .u64 0, .map (some w.heap.size)] 62))) := Lib.hid ⟨⟨heap_alloc_new w1 _, m1.turned (Turned.of_keep (F := fun _ => False) k2) (fun e => e), by omega, ⟨by omega, Nat.le_refl _⟩, List.Pairwise.nil, by unfold maxT; omega, fun a ha => (nomatch ha), by simp⟩, k1.trans k2⟩
  clear m1 k1 k2 s1 hw1
  obtain ⟨b, hb⟩ : ∃ b, w.heap.size = b := ⟨_, rfl⟩
  rw [hb] at hmm H ⊢
  clear hb
  go_enter Try.func9, Try.ntmps9
  go_wp2_with fail
  go_ret
  exact ⟨_, _, rfl, H.out⟩
section
variable {w : World} {B g mb clk : Nat} {l : List Alarm}
/-- What Set tells, what it leaves. -/
def setE (l : List Alarm) (x : Int) (e : Nat) : Int := if x < 0 ∨ e < 1 ∨ maxT < e then 1 else if ∃ a ∈ l, (a.name : Int) = x then 9 else 0
def setR (clk : Nat) (l : List Alarm) (x : Int) (e : Nat) : List Alarm := if setE l x e = 0 then setL ⟨x.toNat, e, later clk e⟩ l else l
theorem later_le (c e : Nat) : later c e ≤ maxT := by unfold later; omega
theorem tset_any (h : TmL w B g mb clk l) (x : Int) (hx : x < 9223372036854775808) (hx2 : -9223372036854775808 ≤ x) (e : Nat) (hf : l.length < 100000) :
    Calls Try.prog 10 #[.pointer (some ⟨g, 0, none⟩), .int .i64 x, .int .u64 (e : Int)] w fun r w' => r = .returned (.int .i64 (setE l x e)) ∧ TmL w' B g mb clk (setR clk l x e) ∧ Turned (FpT g mb) w w' := by
  have CM := Lib.hid (tmade h)
  by_cases hb : x < 0 ∨ e < 1 ∨ maxT < e
  · have hE : setE l x e = 1 := if_pos hb
    have HR : Hid (TmL w B g mb clk (setR clk l x e)) := by unfold setR; rw [hE]; exact Lib.hid h
    rw [hE]
    have HB := Lib.hid hb
    clear hb hE h
    by_cases h1 : x < 0
    · have d1 : decide (x < 0) = true := decide_eq_true h1
      clear h1 hx hx2
      go_enter Try.func10, Try.ntmps10
      go_wp2_with fail
      refine CM.out.mono ?_
      rintro e w1 ⟨rfl, rfl⟩
      go_wp2_with fail
      go_ret
      exact ⟨rfl, HR.out, Turned.refl _ _⟩
    · have d1 : decide (x < 0) = false := decide_eq_false h1
      by_cases h2 : e < 1
      · obtain rfl : e = 0 := by omega
        clear h1 hx hx2 h2
        go_enter Try.func10, Try.ntmps10
        go_wp2_with fail
        refine CM.out.mono ?_
        rintro e w1 ⟨rfl, rfl⟩
        go_wp2_with fail
        go_ret
        exact ⟨rfl, HR.out, Turned.refl _ _⟩
      · have h3 : 1099511627776 < e := by have := HB.out; unfold maxT at this; omega
        have d2 : decide ((e : Int) < 1) = false := decide_eq_false (by omega)
        have d3 : decide (e < 1) = false := decide_eq_false (by omega)
        have d6 : decide (e = 0) = false := decide_eq_false (by omega)
        have d4 : decide ((1099511627776 : Int) < (e : Int)) = true := decide_eq_true (by omega)
        have d5 : decide (1099511627776 < e) = true := decide_eq_true h3
        clear h1 hx hx2 h2 h3
        go_enter Try.func10, Try.ntmps10
        go_wp2_with fail
        refine CM.out.mono ?_
        rintro e w1 ⟨rfl, rfl⟩
        go_wp2_with fail
        go_ret
        exact ⟨rfl, HR.out, Turned.refl _ _⟩
  · obtain ⟨n, rfl⟩ : ∃ n : Nat, x = n := Int.eq_ofNat_of_zero_le (by omega)
    have hm : e ≤ 1099511627776 := by unfold maxT at hb; omega
    have d1 : decide ((n : Int) < 0) = false := decide_eq_false (by omega)
    have d2 : decide ((e : Int) < 1) = false := decide_eq_false (by omega)
    have d3 : decide (e < 1) = false := decide_eq_false (by omega)
    have d6 : decide (e = 0) = false := decide_eq_false (by omega)
    have d4 : decide ((1099511627776 : Int) < (e : Int)) = false := decide_eq_false (by omega)
    have d5 : decide (1099511627776 < e) = false := decide_eq_false (by omega)
    have c1 := h.c1
    by_cases hi : ∃ a ∈ l, (a.name : Int) = n
    · have hE : setE l n e = 9 := by unfold setE; rw [if_neg hb, if_pos hi]
      obtain ⟨a, ha, hn⟩ := hi
      have lk := (h.map.look_in ha (by omega)).1
      rw [hn] at lk
      unfold almC at lk
      have kk : Keep w (w.alloc (.cells #[.int .u64 (a.every : Int), .int .u64 (a.due : Int)] 64)) := (Keep.refl w).alloc _ _
      have HR : Hid (TmL (w.alloc (.cells #[.int .u64 (a.every : Int), .int .u64 (a.due : Int)] 64)) B g mb clk (setR clk l n e) ∧ Turned (FpT g mb) w (w.alloc (.cells #[.int .u64 (a.every : Int), .int .u64 (a.due : Int)] 64))) := by unfold setR; rw [hE]; exact Lib.hid ⟨h.keep kk, Turned.of_keep kk⟩
      rw [hE]
      clear hb hE h ha hn hm hx hx2 kk
      go_enter Try.func10, Try.ntmps10
      go_wp2_with fail
      refine CM.out.mono ?_
      rintro e w1 ⟨rfl, rfl⟩
      go_wp2_with fail
      go_ret
      exact ⟨rfl, HR.out⟩
    · have hE : setE l n e = 0 := by unfold setE; rw [if_neg hb, if_neg hi]
      have lk := (h.map.look_out (fun a ha e => hi ⟨a, ha, e⟩) (i64_lit (by omega) (by omega))).1
      unfold almC at lk
      obtain ⟨w2, hw2⟩ : ∃ w2, w.alloc (.cells #[.int .u64 0, .int .u64 0] 64) = w2 := ⟨_, rfl⟩
      have kk : Keep w w2 := hw2 ▸ (Keep.refl w).alloc _ _
      have h2 := h.keep kk
      have hd := h2.map.turned (Turned.of_keep (F := fun _ => False) (Keep.refl w2).drew) (fun e => e)
      have hno : ¬ isIn n l := fun ⟨a, ha, e⟩ => hi ⟨a, ha, by omega⟩
      have hp := hd.put_new ⟨n, e, later clk e⟩ hno (by show n < _; omega) (by omega)
      have CL := Lib.hid (tlay h2 ⟨n, e, later clk e⟩ (by unfold maxT; exact hm) rfl (setL ⟨n, e, later clk e⟩ l) (rising_setL h.rising hno) (fun b hb2 => by
        rcases mem_setL.1 hb2 with rfl | hb2
        · exact ⟨by show n < _; omega, by show 1 ≤ e; omega, by show e ≤ _; unfold maxT; exact hm, later_le _ _⟩
        · exact h.fine b hb2) (by rw [setL_length]; omega) hp)
      have HK := Lib.hid kk
      have hR : setR clk l (n : Int) e = setL ⟨n, e, later clk e⟩ l := by unfold setR; rw [if_pos hE]; rfl
      rw [hE, hR]
      clear hb hE hR h h2 hd hno hp hi hm hx hx2 kk
      subst hw2
      go_enter Try.func10, Try.ntmps10
      go_wp2_with fail
      refine CM.out.mono ?_
      rintro e w1 ⟨rfl, rfl⟩
      go_wp2_with fail
      refine CL.out.mono ?_
      rintro e w3 ⟨rfl, g3, t3⟩
      go_wp2_with fail
      go_ret
      exact ⟨rfl, g3, (Turned.of_keep (F := FpT g mb) HK.out).trans t3 fun i e => Or.inl (Or.inr e)⟩
end
end Go.Proofs.Ytjjoieahodfikaa
/- The document's own timers: Set, where it is new. -/
namespace Go.Proofs.Ytjjoieahodfikaa
open Go.RowKit Tmr
set_option linter.unusedVariables false
set_option linter.unusedSimpArgs false
/-- What the document's timers take up. -/
def FpD (g : Nat) (A : Option Addr) (n c : Nat) (b : Nat) : Prop := b = g ∨ (Value.slice A n c).ownBlock = some b
/-- Where a name belongs. -/
theorem place_of (x : Nat) : ∀ l : List Alarm, Rising l → ∃ p, p ≤ l.length ∧ (∀ j b, j < p → l[j]? = some b → b.name < x) ∧ ∀ b, l[p]? = some b → ¬ b.name < x
  | [], _ => ⟨0, Nat.le_refl _, fun j b hj => by omega, fun b hb => by simp at hb⟩
  | a :: r, h => by
    unfold Rising at h
    rw [List.pairwise_cons] at h
    by_cases ha : a.name < x
    · obtain ⟨p, h1, h2, h3⟩ := place_of x r h.2
      refine ⟨p + 1, by simpa using h1, fun j b hj hb => ?_, fun b hb => h3 b (by simpa using hb)⟩
      cases j with
      | zero => simp at hb; subst hb; exact ha
      | succ j => exact h2 j b (by omega) (by simpa using hb)
    · exact ⟨0, Nat.zero_le _, fun j b hj => by omega, fun b hb => by simp at hb; subst hb; exact ha⟩
section
variable {w : World} {B g clk n c : Nat} {A : Option Addr} {l : List Alarm}
set_option maxRecDepth 100000 in
set_option maxHeartbeats 4000000 in
theorem dset_new (h : TmD w B g clk A n c l) (x e : Nat) (hx : x < 9223372036854775808) (h1 : 1 ≤ e) (h2 : e ≤ 1099511627776) (hno : ∀ a ∈ l, (a.name : Int) ≠ (x : Int)) (hf : n < 100000) :
    Calls Try.prog 11 #[.pointer (some ⟨g, 0, none⟩), .int .i64 (x : Int), .int .u64 (e : Int)] w fun r w' => ∃ A' c', r = .returned (.int .i64 0) ∧ TmD w' B g clk A' (n + 1) c' (setL ⟨x, e, later clk e⟩ l) ∧ Turned (fun b => b = g) w w' := by
  have CA := Lib.hid (dat_none h hno)
  have hln := h.als.length
  have hcp := h.als.cap
  have hlow := h.low
  have hglt := h.lt
  obtain ⟨p, hp1, hp2, hp3⟩ := place_of x l h.rising
  rw [hln] at hp1
  obtain ⟨d, hd⟩ : ∃ d, later clk e = d := ⟨_, rfl⟩
  have hdm : d ≤ maxT := by rw [← hd]; unfold later; omega
  rw [hd]
  have hset := setL_at (a := ⟨x, e, d⟩) (l := l) (i := p) (by omega) hp2 hp3
  have hnoI : ¬ isIn x l := fun ⟨a, ha, e⟩ => hno a ha (by omega)
  -- t.L[:p]
  have q1 := run_head_sa (P := Try.prog) (t := 28) (k := 3) undAlm infoAlmE n c p A (by omega)
  obtain ⟨hs1, hn1⟩ := h.als.headcells almL hp1
  obtain ⟨A2, c2, w1, r1, s1, t1, _, o1⟩ := run_append_sa (P := Try.prog) (w := w) (base := w.heap.size) (m := p) (cx := c) (A := none) (B := A) (n := 0) (c := 0) (ws := []) (news := l.take p) almL (by decide) Try.underlying28 infoAlm rfl (SAt.nothing w _) (by rw [List.length_take]; omega) hs1 hn1 (by omega) (by decide) (Nat.le_refl _) 28
  have k1 : Keep w w1 := t1.keep_new fun i e => by simp [Value.ownBlock] at e
  rw [Nat.zero_add, List.nil_append] at s1
  rw [Nat.zero_add] at r1 o1
  have h1w := h.keep k1
  have CL := Lib.hid (dlater h1w e (by unfold maxT; exact h2))
  rw [hd] at CL
  -- one more
  have k2 : Keep w1 (w1.alloc (.cells #[.int .i64 (x : Int), .int .u64 (e : Int), .int .u64 (d : Int)] 49)) := (Keep.refl w1).alloc _ _
  obtain ⟨A3, c3, w3, r2, s2, t2, _, o2⟩ := run_append_sa (P := Try.prog) (w := w1.alloc (.cells #[.int .i64 (x : Int), .int .u64 (e : Int), .int .u64 (d : Int)] 49)) (base := w.heap.size) (m := 1) (cx := 1) (B := some ⟨w1.heap.size, 0, none⟩) (news := [⟨x, e, d⟩]) almL (by decide) Try.underlying28 infoAlm rfl (s1.keep k2) rfl (fun ad ea j u hu => by
    injection ea with ea; subst ea
    rw [Addr.add_lit, cell_of_row _ _ _ _ _ _ (heap_alloc_new w1 _), Nat.zero_add]
    simpa [almV] using hu) (fun e => nomatch e) (by omega) (by decide) (Nat.le_trans k1.size k2.size) 28
  have hnew2 : ∀ b, (Value.slice A2 p c2).ownBlock = some b → w.heap.size ≤ b := fun b e => (s1.block b e).1
  have k3 : Keep w w3 := t2.keep (k1.trans k2) hnew2
  -- t.L[p:]
  have h3w := h.keep k3
  have q2 := run_tail_sa (P := Try.prog) (t := 28) (k := 3) undAlm infoAlmE n c p A hp1 (x := (p : Int)) rfl
  obtain ⟨hs3, hn3⟩ := h3w.als.tailcells almL hp1
  obtain ⟨A4, c4, w4, r3, s3, t3, _, o3⟩ := run_append_sa (P := Try.prog) (w := w3) (base := w.heap.size) (m := n - p) (cx := c - p) (B := dropK 3 A c p) (news := l.drop p) almL (by decide) Try.underlying28 infoAlm rfl s2 (by rw [List.length_drop]; omega) hs3 hn3 (by omega) (by decide) k3.size 28
  rw [show p + 1 + (n - p) = n + 1 by omega] at r3 s3 o3
  rw [← hset] at s3
  have hnew3 : ∀ b, (Value.slice A3 (p + 1) c3).ownBlock = some b → w.heap.size ≤ b := fun b e => (s2.block b e).1
  have hnew4 : ∀ b, (Value.slice A4 (n + 1) c4).ownBlock = some b → w.heap.size ≤ b := fun b e => (s3.block b e).1
  have k4 : Keep w w4 := t3.keep k3 hnew3
  have h4w := h.keep k4
  have TS : Turned (fun b => b = g) w4 (w4.setCell ⟨g, 1, none⟩ (.slice A4 (n + 1) c4)) := Turned.set (F := fun b => b = g) w4 ⟨g, 1, none⟩ _ rfl
  have HT : Hid (Turned (fun b => b = g) w (w4.setCell ⟨g, 1, none⟩ (.slice A4 (n + 1) c4))) := (Turned.of_keep (F := fun b => b = g) k4).trans TS fun i e => Or.inl e
  have HR : Hid (TmD (w4.setCell ⟨g, 1, none⟩ (.slice A4 (n + 1) c4)) B g clk A4 (n + 1) c4 (setL ⟨x, e, d⟩ l)) := Lib.hid
    ⟨by simp [World.setCell, Array.getElem?_modify, h4w.block], (s3.lower (by omega)).turned TS (fun b e => by have := hnew4 b e; omega), fun b e => by have := hnew4 b e; omega, hlow, rising_setL h.rising hnoI, h.clock, fun b hb => by
      rcases mem_setL.1 hb with rfl | hb
      · exact ⟨hx, h1, by unfold maxT; exact h2, hdm⟩
      · exact h.fine b hb, by omega⟩
  have cw := h.c1
  have cw1 := h1w.c1
  have cw3 := h3w.c1
  have cw4 := h4w.c1
  have fw4 := h4w.f1
  have d1 : decide ((x : Int) < 0) = false := decide_eq_false (by omega)
  have d2 : decide ((e : Int) = 0) = false := decide_eq_false (by omega)
  have d3 : ((e : Int) == 0) = false := beq_eq_false_iff_ne.2 (by omega)
  have d5 : (e == 0) = false := beq_eq_false_iff_ne.2 (by omega)
  have d6 : decide (e = 0) = false := decide_eq_false (by omega)
  have d4 : decide ((1099511627776 : Int) < (e : Int)) = false := decide_eq_false (by omega)
  have d7 : decide ((0 : Int) ≤ (-1 : Int)) = false := by decide
  have H := Lib.hid h
  have HP := Lib.hid (And.intro hp1 hf)
  have HP2 := Lib.hid hp2
  have HP3 := Lib.hid hp3
  have HLN := Lib.hid hln
  obtain ⟨D, hD⟩ : ∃ v, dropK 3 A c p = v := ⟨_, rfl⟩
  obtain ⟨m2, hm2⟩ : ∃ v, n - p = v := ⟨_, rfl⟩
  obtain ⟨c5, hc5⟩ : ∃ v, c - p = v := ⟨_, rfl⟩
  rw [hD, hm2, hc5] at r3
  simp only [hD, hm2, hc5] at q2
  obtain ⟨n1, hn1e⟩ : ∃ v, n + 1 = v := ⟨_, rfl⟩
  rw [hn1e] at r3 HR HT ⊢
  obtain ⟨p1, hp1e⟩ : ∃ v, p + 1 = v := ⟨_, rfl⟩
  rw [hp1e] at r2 r3
  clear hcp hlow hglt hs1 hn1 hs3 hn3 s1 s2 s3 t1 t2 t3 o1 o2 o3 k1 k2 k3 k4 h1w h3w h4w hnew2 hnew3 hnew4 TS hD hm2 hc5 hset hnoI hd hdm hn1e hp1e hp2 hp3 hln h1 h2 hno hx h
  go_enter Try.func11, Try.ntmps11
  go_wp2_with fail
  refine CA.out.mono ?_
  rintro r v3 ⟨rfl, hv3⟩
  obtain rfl : w = v3 := hv3.symm
  go_wp2_with fail
  go_loopw [7] (fun iv wr => ∃ i : Nat, iv = .int .i64 i ∧ i ≤ p ∧ wr = w) (fun iv _ => p - (intOf iv).toNat)
  case atStart => exact ⟨0, rfl, Nat.zero_le _, rfl⟩
  case round =>
    obtain ⟨i, rfl, hi, hwr⟩ := hrel
    obtain rfl : w = wr := hwr.symm
    have rw1 : IntKind.i64.wrap ((i : Int) + 1) = (i : Int) + 1 := IntWalk.i64_in _ (by have := HP.out; omega)
    have g0 : (0 : Int) ≤ (i : Int) := Int.natCast_nonneg _
    by_cases hip : i < p
    · have hlt : i < n := by have := HP.out; omega
      obtain ⟨b, off, a, hA, hla, a0, a1, a2, hfa⟩ := H.out.one hlt
      subst hA
      have hless := HP2.out i a hip hla
      have g1 : (i : Int) < (n : Int) := by omega
      have b1 : decide ((a.name : Int) < (x : Int)) = true := decide_eq_true (by omega)
      have b2 : decide (a.name < x) = true := decide_eq_true hless
      have HIP := Lib.hid hip
      clear hip hlt hla hfa hless hi
      go_wp2_with fail
      go_roundw
      case rel => exact ⟨i + 1, by go_num, HIP.out, by first | trivial | rfl⟩
      case measure => simp [intOf]; have := HIP.out; omega
    · obtain rfl : i = p := by omega
      by_cases hin : i < n
      · obtain ⟨b, off, a, hA, hla, a0, a1, a2, hfa⟩ := H.out.one hin
        subst hA
        have hless := HP3.out a hla
        have g1 : (i : Int) < (n : Int) := by omega
        have b1 : decide ((a.name : Int) < (x : Int)) = false := decide_eq_false (by omega)
        have b2 : decide (a.name < x) = false := decide_eq_false hless
        clear hip hin hla hfa hless hi
        go_upto_region 9 with fail
        go_upto_region 10 with (at_builtin; refine wpList_append_is rfl _ _ 28 rfl rfl rfl r1 ?_)
        clear r1 q1
        go_wp2_with fail
        refine CL.out.mono ?_
        rintro r v5 ⟨rfl, hv5⟩
        obtain rfl : w1 = v5 := hv5.symm
        go_upto_region 11 with (at_builtin; refine wpList_append_is rfl _ _ 28 rfl rfl rfl r2 ?_)
        clear r2
        go_wp2_with (at_builtin; refine wpList_append_is rfl _ _ 28 rfl rfl rfl r3 ?_)
        go_ret
        exact ⟨_, _, rfl, HR.out, HT.out⟩
      · have g1 : ¬ (i : Int) < (n : Int) := by omega
        have g2 : decide ((i : Int) < (n : Int)) = false := decide_eq_false g1
        clear hip hin hi
        go_upto_region 9 with fail
        go_upto_region 10 with (at_builtin; refine wpList_append_is rfl _ _ 28 rfl rfl rfl r1 ?_)
        clear r1 q1
        go_wp2_with fail
        refine CL.out.mono ?_
        rintro r v5 ⟨rfl, hv5⟩
        obtain rfl : w1 = v5 := hv5.symm
        go_upto_region 11 with (at_builtin; refine wpList_append_is rfl _ _ 28 rfl rfl rfl r2 ?_)
        clear r2
        go_wp2_with (at_builtin; refine wpList_append_is rfl _ _ 28 rfl rfl rfl r3 ?_)
        go_ret
        exact ⟨_, _, rfl, HR.out, HT.out⟩
end
end Go.Proofs.Ytjjoieahodfikaa
/- The landed timers: Stop, Again. -/
namespace Go.Proofs.Ytjjoieahodfikaa
open Go.RowKit Go.Maps Tmr
set_option linter.unusedVariables false
set_option linter.unusedSimpArgs false
set_option maxRecDepth 100000
section
variable {w : World} {B g mb clk : Nat} {l : List Alarm}
/-- What Stop and Again tell, what they leave. -/
def isE (l : List Alarm) (x : Int) : Int := if ∃ a ∈ l, (a.name : Int) = x then 0 else 6
def stopR (l : List Alarm) (x : Int) : List Alarm := if isE l x = 0 then stopL x.toNat l else l
def againR (clk : Nat) (l : List Alarm) (x : Int) : List Alarm := if isE l x = 0 then againL clk x.toNat l else l
theorem isE_no {l : List Alarm} {x : Int} (h : ¬ ∃ a ∈ l, (a.name : Int) = x) : isE l x = 6 := if_neg h
theorem isE_yes {l : List Alarm} {x : Int} (h : ∃ a ∈ l, (a.name : Int) = x) : isE l x = 0 := if_pos h
theorem fine_again {c n : Nat} {l : List Alarm} (h : ∀ a ∈ l, FineA a) : ∀ b ∈ againL c n l, FineA b := fun b hb => by
  obtain ⟨x, hx, e⟩ := List.mem_map.1 hb
  have hfx := h x hx
  split at e
  · subst e; exact ⟨hfx.1, hfx.2.1, hfx.2.2.1, later_le _ _⟩
  · subst e; exact hfx
theorem againL_length (c n : Nat) (l : List Alarm) : (againL c n l).length = l.length := by simp [againL]
theorem tstop_any (h : TmL w B g mb clk l) (x : Int) (hx : x < 9223372036854775808) (hx2 : -9223372036854775808 ≤ x) :
    Calls Try.prog 12 #[.pointer (some ⟨g, 0, none⟩), .int .i64 x] w fun r w' => r = .returned (.int .i64 (isE l x)) ∧ TmL w' B g mb clk (stopR l x) ∧ Turned (FpT g mb) w w' := by
  have CM := Lib.hid (tmade h)
  have c1 := h.c1
  by_cases hi : ∃ a ∈ l, (a.name : Int) = x
  · have hE := isE_yes hi
    obtain ⟨a, ha, hn⟩ := hi
    subst hn
    have lk := (h.map.look_in ha (by omega)).1
    unfold almC at lk
    obtain ⟨w2, hw2⟩ : ∃ w2, w.alloc (.cells #[.int .u64 (a.every : Int), .int .u64 (a.due : Int)] 64) = w2 := ⟨_, rfl⟩
    have kk : Keep w w2 := hw2 ▸ (Keep.refl w).alloc _ _
    have h2 := h.keep kk
    have d1 := h2.c1
    obtain ⟨w3, r3, m3, g3⟩ := h2.map.drop h.rising ha (by omega) 0
    have t3 : Turned (fun b => b = mb) w2 w3 := Turned.of_grown g3 fun i e => (Option.some.inj e).symm
    have hR : stopR l (a.name : Int) = stopL a.name l := by unfold stopR; rw [if_pos hE]; rfl
    have HR : Hid (TmL w3 B g mb clk (stopL a.name l) ∧ Turned (FpT g mb) w w3) := Lib.hid ⟨⟨(t3.block g h2.lt (fun e => h.ap e.symm)).trans h2.block, m3, h.ap, h.low, rising_stopL h.rising, h.clock, fun b hb => h.fine b (List.mem_filter.1 hb).1, Nat.le_trans (List.length_filter_le _ _) h.few⟩, (Turned.of_keep (F := FpT g mb) kk).trans t3 fun i e => Or.inl (Or.inr e)⟩
    rw [hE, hR]
    clear hE hR h h2 ha hx hx2 kk m3 g3 t3
    go_enter Try.func12, Try.ntmps12
    go_wp2_with fail
    refine CM.out.mono ?_
    rintro e w1 ⟨rfl, rfl⟩
    go_wp2_with fail
    go_ret
    exact ⟨rfl, HR.out⟩
  · have hE := isE_no hi
    have lk := (h.map.look_out (fun a ha e => hi ⟨a, ha, e⟩) (i64_lit (by omega) (by omega))).1
    unfold almC at lk
    have kk : Keep w (w.alloc (.cells #[.int .u64 0, .int .u64 0] 64)) := (Keep.refl w).alloc _ _
    have HR : Hid (TmL (w.alloc (.cells #[.int .u64 0, .int .u64 0] 64)) B g mb clk (stopR l x) ∧ Turned (FpT g mb) w (w.alloc (.cells #[.int .u64 0, .int .u64 0] 64))) := by unfold stopR; rw [hE]; exact Lib.hid ⟨h.keep kk, Turned.of_keep kk⟩
    rw [hE]
    clear hE h hi hx hx2 kk
    go_enter Try.func12, Try.ntmps12
    go_wp2_with fail
    refine CM.out.mono ?_
    rintro e w1 ⟨rfl, rfl⟩
    go_wp2_with fail
    go_ret
    exact ⟨rfl, HR.out⟩
theorem tagain_any (h : TmL w B g mb clk l) (x : Int) (hx : x < 9223372036854775808) (hx2 : -9223372036854775808 ≤ x) :
    Calls Try.prog 14 #[.pointer (some ⟨g, 0, none⟩), .int .i64 x] w fun r w' => r = .returned (.int .i64 (isE l x)) ∧ TmL w' B g mb clk (againR clk l x) ∧ Turned (FpT g mb) w w' := by
  have CM := Lib.hid (tmade h)
  have c1 := h.c1
  by_cases hi : ∃ a ∈ l, (a.name : Int) = x
  · have hE := isE_yes hi
    obtain ⟨a, ha, hn⟩ := hi
    subst hn
    have lk := (h.map.look_in ha (by omega)).1
    unfold almC at lk
    have hfa := h.fine a ha
    obtain ⟨w2, hw2⟩ : ∃ w2, w.alloc (.cells #[.int .u64 (a.every : Int), .int .u64 (a.due : Int)] 64) = w2 := ⟨_, rfl⟩
    have kk : Keep w w2 := hw2 ▸ (Keep.refl w).alloc _ _
    have h2 := h.keep kk
    have hd := h2.map.turned (Turned.of_keep (F := fun _ => False) (Keep.refl w2).drew) (fun e => e)
    have hp := hd.put_old (anew clk a) ⟨a, ha, rfl⟩ (by show a.name < _; omega) (by have := h.few; omega)
    rw [putL_anew h.rising ha] at hp
    have CL := Lib.hid (tlay h2 (anew clk a) hfa.2.2.1 rfl (againL clk a.name l) (rising_againL h.rising) (fine_again h.fine) (by rw [againL_length]; exact h.few) hp)
    have HK := Lib.hid kk
    have hR : againR clk l (a.name : Int) = againL clk a.name l := by unfold againR; rw [if_pos hE]; rfl
    rw [hE, hR]
    have CL : Hid (Calls Try.prog 24 #[.pointer (some ⟨g, 0, none⟩), .int .i64 (a.name : Int), .int .u64 (a.every : Int)] w2 fun r w' => r = .returned (.tuple #[]) ∧ TmL w' B g mb clk (againL clk a.name l) ∧ Turned (fun b => b = mb) w2 w') := CL
    clear hE hR h h2 hd hp ha hx hx2 kk hfa
    subst hw2
    go_enter Try.func14, Try.ntmps14
    go_wp2_with fail
    refine CM.out.mono ?_
    rintro e w1 ⟨rfl, rfl⟩
    go_wp2_with fail
    refine CL.out.mono ?_
    rintro e w3 ⟨rfl, g3, t3⟩
    go_wp2_with fail
    go_ret
    exact ⟨rfl, g3, (Turned.of_keep (F := FpT g mb) HK.out).trans t3 fun i e => Or.inl (Or.inr e)⟩
  · have hE := isE_no hi
    have lk := (h.map.look_out (fun a ha e => hi ⟨a, ha, e⟩) (i64_lit (by omega) (by omega))).1
    unfold almC at lk
    have kk : Keep w (w.alloc (.cells #[.int .u64 0, .int .u64 0] 64)) := (Keep.refl w).alloc _ _
    have HR : Hid (TmL (w.alloc (.cells #[.int .u64 0, .int .u64 0] 64)) B g mb clk (againR clk l x) ∧ Turned (FpT g mb) w (w.alloc (.cells #[.int .u64 0, .int .u64 0] 64))) := by unfold againR; rw [hE]; exact Lib.hid ⟨h.keep kk, Turned.of_keep kk⟩
    rw [hE]
    clear hE h hi hx hx2 kk
    go_enter Try.func14, Try.ntmps14
    go_wp2_with fail
    refine CM.out.mono ?_
    rintro e w1 ⟨rfl, rfl⟩
    go_wp2_with fail
    go_ret
    exact ⟨rfl, HR.out⟩
end
end Go.Proofs.Ytjjoieahodfikaa
/- The document's own timers: Set, Stop, Again in one word each; Next. -/
namespace Go.Proofs.Ytjjoieahodfikaa
open Go.RowKit Tmr
set_option linter.unusedVariables false
set_option linter.unusedSimpArgs false
set_option maxRecDepth 100000
section
variable {w : World} {B g clk n c : Nat} {A : Option Addr} {l : List Alarm}
theorem TmD.of_turn {G : Nat → Prop} {w' : World} (h : TmD w B g clk A n c l) (t : Turned G w w') (hG : ∀ b, G b → b < B ∨ w.heap.size ≤ b) : TmD w' B g clk A n c l :=
  h.turned t (fun e => by have := hG _ e; have := h.low; have := h.lt; omega) (fun b hb e => by have := hG _ e; have := h.als.block b hb; omega)
theorem FpD.low (h : TmD w B g clk A n c l) {b : Nat} (hb : FpD g A n c b) : B ≤ b ∧ b < w.heap.size := by
  rcases hb with rfl | hb
  · exact ⟨h.low, h.lt⟩
  · exact h.als.block b hb
theorem dset_any (h : TmD w B g clk A n c l) (x : Int) (hx : x < 9223372036854775808) (e : Nat) (hf : n < 100000) :
    Calls Try.prog 11 #[.pointer (some ⟨g, 0, none⟩), .int .i64 x, .int .u64 (e : Int)] w fun r w' => ∃ A' n' c', r = .returned (.int .i64 (setE l x e)) ∧ TmD w' B g clk A' n' c' (setR clk l x e) ∧ Turned (FpD g A n c) w w' ∧ n' ≤ n + 1 := by
  by_cases hb : x < 0 ∨ e < 1 ∨ maxT < e
  · have hE : setE l x e = 1 := if_pos hb
    have hR : setR clk l x e = l := by unfold setR; rw [hE]; rfl
    rw [hE, hR]
    refine (dset_arg h x e (by unfold maxT at hb; omega)).mono ?_
    rintro r w' ⟨rfl, rfl⟩
    exact ⟨A, n, c, rfl, h, Turned.refl _ _, Nat.le_succ _⟩
  · obtain ⟨k, rfl⟩ : ∃ k : Nat, x = k := Int.eq_ofNat_of_zero_le (by omega)
    have hm : e ≤ 1099511627776 := by unfold maxT at hb; omega
    by_cases hi : ∃ a ∈ l, (a.name : Int) = k
    · have hE : setE l k e = 9 := by unfold setE; rw [if_neg hb, if_pos hi]
      have hR : setR clk l k e = l := by unfold setR; rw [hE]; rfl
      rw [hE, hR]
      obtain ⟨a, ha, hn⟩ := hi
      obtain ⟨j, hj, ej⟩ := List.getElem_of_mem ha
      have := dset_there h (k := j) (a := a) (by rw [List.getElem?_eq_getElem hj, ej]) e (by omega) hm
      rw [hn] at this
      refine Calls.mono this ?_
      rintro r w' ⟨rfl, rfl⟩
      exact ⟨A, n, c, rfl, h, Turned.refl _ _, Nat.le_succ _⟩
    · have hE : setE l k e = 0 := by unfold setE; rw [if_neg hb, if_neg hi]
      have hR : setR clk l k e = setL ⟨k, e, later clk e⟩ l := by unfold setR; rw [if_pos hE]; rfl
      rw [hE, hR]
      refine (dset_new h k e (by omega) (by omega) hm (fun a ha e => hi ⟨a, ha, e⟩) hf).mono ?_
      rintro r w' ⟨A', c', rfl, h2, t⟩
      exact ⟨A', n + 1, c', rfl, h2, t.mono fun i _ e => Or.inl e, Nat.le_refl _⟩
theorem dstop_any (h : TmD w B g clk A n c l) (x : Int) :
    Calls Try.prog 13 #[.pointer (some ⟨g, 0, none⟩), .int .i64 x] w fun r w' => ∃ A' n' c', r = .returned (.int .i64 (isE l x)) ∧ TmD w' B g clk A' n' c' (stopR l x) ∧ Turned (FpD g A n c) w w' ∧ n' ≤ n + 1 := by
  by_cases hi : ∃ a ∈ l, (a.name : Int) = x
  · have hE := isE_yes hi
    obtain ⟨a, ha, hn⟩ := hi
    subst hn
    have hR : stopR l (a.name : Int) = stopL a.name l := by unfold stopR; rw [if_pos hE]; rfl
    rw [hE, hR]
    obtain ⟨j, hj, ej⟩ := List.getElem_of_mem ha
    refine (dstop_in h (k := j) (a := a) (by rw [List.getElem?_eq_getElem hj, ej])).mono ?_
    rintro r w' ⟨A', c', rfl, h2, t⟩
    exact ⟨A', n - 1, c', rfl, h2, t.mono fun i _ e => Or.inl e, by omega⟩
  · have hE := isE_no hi
    have hR : stopR l x = l := by unfold stopR; rw [hE]; rfl
    rw [hE, hR]
    refine (dstop_none h fun a ha e => hi ⟨a, ha, e⟩).mono ?_
    rintro r w' ⟨rfl, rfl⟩
    exact ⟨A, n, c, rfl, h, Turned.refl _ _, Nat.le_succ _⟩
theorem dagain_any (h : TmD w B g clk A n c l) (x : Int) :
    Calls Try.prog 15 #[.pointer (some ⟨g, 0, none⟩), .int .i64 x] w fun r w' => r = .returned (.int .i64 (isE l x)) ∧ TmD w' B g clk A n c (againR clk l x) ∧ Turned (FpD g A n c) w w' := by
  by_cases hi : ∃ a ∈ l, (a.name : Int) = x
  · have hE := isE_yes hi
    obtain ⟨a, ha, hn⟩ := hi
    subst hn
    have hR : againR clk l (a.name : Int) = againL clk a.name l := by unfold againR; rw [if_pos hE]; rfl
    rw [hE, hR]
    obtain ⟨j, hj, ej⟩ := List.getElem_of_mem ha
    refine (dagain_in h (k := j) (a := a) (by rw [List.getElem?_eq_getElem hj, ej])).mono ?_
    rintro r w' ⟨rfl, h2, t⟩
    exact ⟨rfl, h2, t.mono fun i _ e => Or.inr e⟩
  · have hE := isE_no hi
    have hR : againR clk l x = l := by unfold againR; rw [hE]; rfl
    rw [hE, hR]
    refine (dagain_none h fun a ha e => hi ⟨a, ha, e⟩).mono ?_
    rintro r w' ⟨rfl, rfl⟩
    exact ⟨rfl, h, Turned.refl _ _⟩
/-- The least of the first i. -/
structure LeastD (l : List Alarm) (i m : Nat) : Prop where
  z : i = 0 → m = 0
  le : 0 < i → ∀ j a, j < i → l[j]? = some a → m ≤ a.due
  is : 0 < i → ∃ j a, j < i ∧ l[j]? = some a ∧ a.due = m
theorem LeastD.put {l : List Alarm} {i m : Nat} {a : Alarm} (h : LeastD l i m) (ha : l[i]? = some a) : LeastD l (i + 1) (if i = 0 ∨ a.due < m then a.due else m) := by
  refine ⟨fun e => by omega, fun _ j b hj hb => ?_, fun _ => ?_⟩
  · rcases Nat.lt_or_ge j i with h1 | h1
    · have := h.le (by omega) j b h1 hb
      split <;> omega
    · obtain rfl : j = i := by omega
      rw [ha] at hb
      injection hb with hb
      subst hb
      split <;> omega
  · by_cases hc : i = 0 ∨ a.due < m
    · rw [if_pos hc]; exact ⟨i, a, Nat.lt_succ_self _, ha, rfl⟩
    · rw [if_neg hc]
      obtain ⟨j, b, h1, h2, h3⟩ := h.is (by omega)
      exact ⟨j, b, by omega, h2, h3⟩
theorem LeastD.end_ {l : List Alarm} {m : Nat} (h : LeastD l l.length m) : m = nextL l := by
  by_cases hne : l = []
  · subst hne; exact h.z rfl
  · have h0 : 0 < l.length := List.length_pos_iff.2 hne
    obtain ⟨a, ha, e⟩ := nextL_mem hne
    obtain ⟨j, hj, ej⟩ := List.getElem_of_mem ha
    have h1 := h.le h0 j a hj (by rw [List.getElem?_eq_getElem hj, ej])
    obtain ⟨k, b, _, h2, h3⟩ := h.is h0
    have h4 := nextL_le (List.mem_of_getElem? h2)
    omega
set_option maxHeartbeats 2000000 in
theorem dnext_any (h : TmD w B g clk A n c l) : Calls Try.prog 20 #[.pointer (some ⟨g, 0, none⟩)] w fun r w' => r = .returned (.tuple #[.int .u64 (nextL l : Int), .bool (decide (l ≠ []))]) ∧ ∃ q, w' = w.drewN q := by
  have H := Lib.hid h
  have c1 := h.c1
  have HF := Lib.hid h.few
  have HLN := Lib.hid h.als.length
  obtain ⟨z, hz⟩ : ∃ z : Bool, decide (l ≠ []) = z := ⟨_, rfl⟩
  rw [hz]
  have HZ := Lib.hid hz
  clear h hz
  go_enter Try.func20, Try.ntmps20
  go_wp2_with fail
  go_loopw [4, 5] (fun mv iv wr => ∃ (i m : Nat), mv = .int .u64 m ∧ iv = .int .i64 i ∧ i ≤ n ∧ LeastD l i m ∧ wr = w) (fun mv iv _ => n - (intOf iv).toNat)
  case atStart => exact ⟨0, 0, rfl, rfl, Nat.zero_le _, ⟨fun _ => rfl, fun h => absurd h (Nat.lt_irrefl 0), fun h => absurd h (Nat.lt_irrefl 0)⟩, rfl⟩
  case round =>
    obtain ⟨i, m, rfl, rfl, hi, hm, hwr⟩ := hrel
    obtain rfl : w = wr := hwr.symm
    have HMM := Lib.hid hm
    clear hm
    have g0 : (0 : Int) ≤ (i : Int) := Int.natCast_nonneg _
    have rw1 : IntKind.i64.wrap ((i : Int) + 1) = (i : Int) + 1 := IntWalk.i64_in _ (by have := HF.out; omega)
    by_cases hlt : i < n
    · obtain ⟨b, off, a, hA, hla, a0, a1, a2, hfa⟩ := H.out.one hlt
      subst hA
      have g1 : (i : Int) < (n : Int) := by omega
      have HP := Lib.hid (HMM.out.put hla)
      have HLT := Lib.hid hlt
      obtain ⟨d, hd⟩ : ∃ d, a.due = d := ⟨_, rfl⟩
      rw [hd] at a2 HP
      by_cases h0 : i = 0
      · subst h0
        rw [if_pos (Or.inl rfl)] at HP
        clear hd hla hfa hlt hi
        go_wp2_with fail
        go_roundw
        case rel => exact ⟨1, d, rfl, by go_num, HLT.out, HP.out, by first | trivial | rfl⟩
        case measure => simp [intOf]; have := HLT.out; omega
      · have z1 : ((i : Int) == 0) = false := beq_eq_false_iff_ne.2 (by omega)
        have z2 : decide ((i : Int) = 0) = false := decide_eq_false (by omega)
        have z3 : decide (i = 0) = false := decide_eq_false h0
        by_cases hdm : d < m
        · rw [if_pos (Or.inr hdm)] at HP
          have b1 : decide ((d : Int) < (m : Int)) = true := decide_eq_true (by omega)
          have b2 : decide (d < m) = true := decide_eq_true hdm
          clear hd hla hfa hlt hi h0 hdm
          go_wp2_with fail
          go_roundw
          case rel => exact ⟨i + 1, d, rfl, by go_num, HLT.out, HP.out, by first | trivial | rfl⟩
          case measure => simp [intOf]; have := HLT.out; omega
        · rw [if_neg (by omega)] at HP
          have b1 : decide ((d : Int) < (m : Int)) = false := decide_eq_false (by omega)
          have b2 : decide (d < m) = false := decide_eq_false hdm
          clear hd hla hfa hlt hi h0 hdm
          go_wp2_with fail
          go_roundw
          case rel => exact ⟨i + 1, m, rfl, by go_num, HLT.out, HP.out, by first | trivial | rfl⟩
          case measure => simp [intOf]; have := HLT.out; omega
    · have hin : i = n := by omega
      have HE : Hid (m = nextL l) := Lib.hid (LeastD.end_ (by have := HMM.out; rw [hin, ← HLN.out] at this; exact this))
      have g1 : ¬ (i : Int) < (n : Int) := by omega
      have g2 : decide ((i : Int) < (n : Int)) = false := decide_eq_false g1
      have hz1 : decide (0 < n) = z := by
        rw [← HZ.out]
        refine decide_eq_decide.2 ?_
        rw [← HLN.out, List.length_pos_iff]
      have hz2 : decide ((0 : Int) < (n : Int)) = z := by rw [← hz1]; exact decide_eq_decide.2 (by omega)
      clear hin hlt hi
      go_wp2_with fail
      go_quiet (fail)
      go_wp2_with fail
      go_ret2
      exact ⟨by rw [HE.out]; rfl, _, rfl⟩
end
end Go.Proofs.Ytjjoieahodfikaa
