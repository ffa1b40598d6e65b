/- The landed timers: Tick. -/
import Derived.Test.YtjjoieahodfikaaQad
import Derived.Test.YtjjoieahodfikaaQaa
import Derived.Laws.Entries
namespace Go.Proofs.Ytjjoieahodfikaa
open Go.RowKit Go.Maps Tmr
set_option linter.unusedVariables false
set_option linter.unusedSimpArgs false
set_option maxRecDepth 100000
/-- What Tick tells, what it leaves. -/
def tickE (clk n : Nat) : Int := if maxT < clk + n then 1 else 0
def tickC (clk n : Nat) : Nat := if maxT < clk + n then clk else clk + n
def tickZ (clk : Nat) (l : List Alarm) (n : Nat) : List Int := if maxT < clk + n then [] else namesZ (dueL (clk + n) l)
def tickR (clk : Nat) (l : List Alarm) (n : Nat) : List Alarm := if maxT < clk + n then l else tickL (clk + n) l
/-- The first i of them are due anew. -/
def againN (c : Nat) (d l : List Alarm) (i : Nat) : List Alarm := (d.take i).foldl (fun l a => againL c a.name l) l
theorem againN_succ {c : Nat} {d l : List Alarm} {i : Nat} {a : Alarm} (h : d[i]? = some a) : againN c d l (i + 1) = againL c a.name (againN c d l i) := by
  unfold againN
  rw [List.take_add_one, h]
  simp
theorem againL_in {c n m : Nat} {l : List Alarm} (h : isIn m l) : isIn m (againL c n l) := by
  obtain ⟨a, ha, e⟩ := h
  refine ⟨_, List.mem_map.2 ⟨a, ha, rfl⟩, ?_⟩
  split <;> exact e
theorem againN_in {c m : Nat} {d l : List Alarm} (i : Nat) (h : isIn m l) : isIn m (againN c d l i) := by
  unfold againN
  generalize d.take i = k
  induction k generalizing l with
  | nil => exact h
  | cons a k ih => exact ih (againL_in h)
/-- Again, of an alarm that is there, in tlay's words. -/
theorem tlay_again {w : World} {B g mb clk : Nat} {l : List Alarm} (h : TmL w B g mb clk l) {a : Alarm} (ha : a ∈ l) :
    Calls Try.prog 24 #[.pointer (some ⟨g, 0, none⟩), .int .i64 (a.name : Int), .int .u64 (a.every : Int)] w fun r w' => r = .returned (.tuple #[]) ∧ TmL w' B g mb clk (againL clk a.name l) ∧ Turned (fun b => b = mb) w w' := by
  have hfa := h.fine a ha
  have hd := h.map.turned (Turned.of_keep (F := fun _ => False) (Keep.refl w).drew) (fun e => e)
  have hp := hd.put_old (anew clk a) ⟨a, ha, rfl⟩ (by show a.name < _; exact hfa.1) (by have := h.few; omega)
  rw [putL_anew h.rising ha] at hp
  exact tlay h (anew clk a) hfa.2.2.1 rfl (againL clk a.name l) (rising_againL h.rising) (fine_again h.fine) (by rw [againL_length]; exact h.few) hp
set_option maxHeartbeats 2000000 in
theorem ttick_any {w : World} {B g mb clk : Nat} {l : List Alarm} (h : TmL w B g mb clk l) (n : Nat) (hn : n < 18446744073709551616) (hf : l.length ≤ 100000) :
    Calls Try.prog 16 #[.pointer (some ⟨g, 0, none⟩), .int .u64 (n : Int)] w fun r w' => ∃ A m c, r = .returned (.tuple #[.slice A m c, .int .i64 (tickE clk n)]) ∧ OwnZ w' w.heap.size A m c (tickZ clk l n) ∧ TmL w' B g mb (tickC clk n) (tickR clk l n) ∧ Turned (FpT g mb) w w' := by
  have CM := Lib.hid (tmade h)
  have c0 := h.c0
  have hc := h.clock
  obtain ⟨s, hs⟩ : ∃ s, maxT - clk = s := ⟨_, rfl⟩
  have e1 : IntKind.u64.wrap ((1099511627776 : Int) - (clk : Int)) = (s : Int) := by unfold maxT at hc hs; rw [IntWalk.u64_in _ (by omega)]; omega
  by_cases hb : maxT < clk + n
  · have b1 : decide ((s : Int) < (n : Int)) = true := decide_eq_true (by omega)
    have b2 : decide (s < n) = true := decide_eq_true (by omega)
    rw [show tickE clk n = 1 from if_pos hb, show tickZ clk l n = [] from if_pos hb, show tickC clk n = clk from if_pos hb, show tickR clk l n = l from if_pos hb]
    have H := Lib.hid h
    clear h hc hs hb hn
    go_enter Try.func16, Try.ntmps16
    go_wp2_with fail
    refine CM.out.mono ?_
    rintro e w1 ⟨rfl, hw⟩
    obtain rfl : w = w1 := hw.symm
    go_wp2_with fail
    go_ret2
    exact ⟨none, 0, 0, rfl, OwnZ.none_ _ _, H.out, Turned.refl _ _⟩
  · have b1 : decide ((s : Int) < (n : Int)) = false := decide_eq_false (by omega)
    have b2 : decide (s < n) = false := decide_eq_false (by omega)
    rw [show tickE clk n = 0 from if_neg hb, show tickZ clk l n = namesZ (dueL (clk + n) l) from if_neg hb, show tickC clk n = clk + n from if_neg hb, show tickR clk l n = tickL (clk + n) l from if_neg hb]
    obtain ⟨k, hk⟩ : ∃ k, clk + n = k := ⟨_, rfl⟩
    have e2 : IntKind.u64.wrap ((clk : Int) + (n : Int)) = (k : Int) := by unfold maxT at hb; rw [IntWalk.u64_in _ (by omega)]; omega
    rw [hk]
    have f0 := h.f0
    obtain ⟨w1, hw1⟩ : ∃ w1, w.setCell ⟨g, 0, none⟩ (.int .u64 (k : Int)) = w1 := ⟨_, rfl⟩
    have t1 : Turned (fun b => b = g) w w1 := hw1 ▸ Turned.set (F := fun b => b = g) w ⟨g, 0, none⟩ _ rfl
    have h1 : TmL w1 B g mb k l := ⟨by rw [← hw1]; simp [World.setCell, Array.getElem?_modify, h.block], h.map.turned t1 h.ap, h.ap, h.low, h.rising, by omega, h.fine, h.few⟩
    have CD := Lib.hid (tdue_any h1)
    have T1 := Lib.hid t1
    have H1 := Lib.hid h1
    obtain ⟨d, hd⟩ : ∃ d, dueL k l = d := ⟨_, rfl⟩
    have hin : Hid (∀ a ∈ d, isIn a.name l) := Lib.hid fun a ha => ⟨a, ((mem_dueL h.rising).1 (hd ▸ ha)).1, rfl⟩
    have hend : Hid (againN k d l d.length = tickL k l) := Lib.hid (by unfold againN; rw [List.take_length, ← hd]; exact tick_fold h.rising)
    rw [hd] at CD ⊢
    have LW := Lib.hid (And.intro h.lt h.mlt)
    have hdl : Hid (d.length ≤ 100000) := Lib.hid (by rw [← hd, (dueL_perm h.rising).length_eq]; exact Nat.le_trans (List.length_filter_le _ _) h.few)
    clear h hc hs hb hn hk h1 t1 hd
    subst hw1
    go_enter Try.func16, Try.ntmps16
    go_wp2_with fail
    refine CM.out.mono ?_
    rintro e w2 ⟨rfl, hw⟩
    obtain rfl : w = w2 := hw.symm
    go_wp2_with fail
    refine CD.out.mono ?_
    rintro e w2 ⟨A, m, c, rfl, o2, k2⟩
    have hm := o2.length
    have hm : d.length = m := by rw [← hm]; simp [namesZ]
    have HMD := Lib.hid hm
    have hml : m ≤ 100000 := by have := hdl.out; omega
    have O2 : Hid (OwnZ w2 w.heap.size A m c (namesZ d)) := Lib.hid (by
      have e : (w.setCell ⟨g, 0, none⟩ (.int .u64 (k : Int))).heap.size = w.heap.size := by simp [World.setCell]
      rw [e] at o2; exact o2)
    have H2 := Lib.hid (H1.out.keep k2)
    have T2 := Lib.hid (T1.out.trans (Turned.of_keep (F := fun _ => False) k2) fun i e => e.elim)
    clear o2 k2 hm
    go_wp2_with fail
    go_loopw [31] (fun iv wr => ∃ i : Nat, i ≤ m ∧ iv = .int .i64 i ∧ TmL wr B g mb k (againN k d l i) ∧ OwnZ wr w.heap.size A m c (namesZ d) ∧ Turned (FpT g mb) w wr) (fun iv _ => m - (intOf iv).toNat)
    case atStart => exact ⟨0, by omega, rfl, H2.out, O2.out, T2.out.mono fun i _ e => Or.inl e⟩
    case round =>
      obtain ⟨i, hi, rfl, hr, ho, ht⟩ := hrel
      have HO := Lib.hid ho
      have HT := Lib.hid ht
      by_cases hlt : i < m
      · obtain ⟨gb, z, rfl, _, hgb, hz, hcell⟩ := ho.at_ hlt
        rw [Nat.zero_add] at hcell
        have hdi := List.getElem?_eq_getElem (l := d) (i := i) (by have := HMD.out; omega)
        obtain ⟨a, hda⟩ : ∃ a, d[i]? = some a := ⟨_, hdi⟩
        have hza : z = (a.name : Int) := by
          unfold namesZ at hz
          rw [List.getElem?_map, hda] at hz
          simpa using hz.symm
        subst hza
        obtain ⟨a', ha', hn'⟩ := againN_in (c := k) (d := d) i (hin.out a (List.mem_of_getElem? hda))
        have lk := (hr.map.look_in ha' (hr.fine a' ha').1).2
        have CL := tlay_again hr ha'
        rw [hn', ← againN_succ hda] at CL
        rw [hn'] at lk
        unfold almC at lk
        have HCL := Lib.hid CL
        have c1 := hr.c1
        have g0 : (0 : Int) ≤ (i : Int) := Int.natCast_nonneg _
        have g1 : (i : Int) < (m : Int) := by omega
        have fe := field_every a'.every a'.due wr
        have HLT := Lib.hid hlt
        clear CL hda hdi hz ha' hn' hr ho ht hgb hlt
        go_wp2_with fail
        refine HCL.out.mono ?_
        rintro e w3 ⟨rfl, h3, t3⟩
        have H3 := Lib.hid h3
        have O3 := Lib.hid (HO.out.turned t3 fun x hx e => by have := (HO.out.low x hx).1; have := LW.out.2; omega)
        have T3 := Lib.hid (HT.out.trans t3 fun x e => Or.inl (Or.inr e))
        clear h3 t3
        go_wp2_with fail
        go_roundw
        case rel => exact ⟨i + 1, by have := HLT.out; omega, by go_num, H3.out, O3.out, T3.out⟩
        case measure => simp [intOf]; have := HLT.out; omega
      · obtain rfl : i = m := by omega
        have HR := Lib.hid hr
        clear hr ho ht
        go_wp2_with fail
        go_ret2
        exact ⟨A, i, c, rfl, HO.out, (by have h := HR.out; rw [← HMD.out, hend.out] at h; exact h), HT.out⟩
end Go.Proofs.Ytjjoieahodfikaa
/- Ints compared (the document's own); what the document's examples say. -/
namespace Go.Proofs.Ytjjoieahodfikaa
open Go.RowKit Go.Maps Tmr
set_option linter.unusedVariables false
set_option linter.unusedSimpArgs false
set_option maxRecDepth 100000
/-- A slice of n ints, as it is read. -/
def ZsAt (w : World) (A : Option Addr) (n : Nat) (zs : List Int) : Prop :=
  zs.length = n ∧ (0 < n → ∃ b off, A = some ⟨b, off, none⟩ ∧ ∀ i z, zs[i]? = some z → w.cell? ⟨b, off + i, none⟩ = some (.int .i64 z))
theorem OwnZ.zs {w : World} {base n c : Nat} {A : Option Addr} {zs : List Int} (h : OwnZ w base A n c zs) : ZsAt w A n zs := by
  refine ⟨h.length, fun hn => ?_⟩
  obtain ⟨g, z, rfl, _, _, _, _⟩ := h.at_ hn
  refine ⟨g, 0, rfl, fun i z hz => ?_⟩
  obtain ⟨g', z', e, _, _, hz', hc⟩ := h.at_ (i := i) (by have := (List.getElem?_eq_some_iff.1 hz).1; have := h.length; omega)
  injection e with e
  injection e with e1
  subst e1
  rw [hz] at hz'
  injection hz' with hz'
  subst hz'
  exact hc
theorem zs_one (W : World) (a : Int) (t : TypeId) : ZsAt (W.alloc (.cells #[.int .i64 a] t)) (some ⟨W.heap.size, 0, none⟩) 1 [a] :=
  ⟨rfl, fun _ => ⟨_, 0, rfl, fun i z hz => by
    match i, hz with
    | 0, hz => simp at hz; subst hz; simp⟩⟩
theorem zs_two (W : World) (a b : Int) (t : TypeId) : ZsAt (W.alloc (.cells #[.int .i64 a, .int .i64 b] t)) (some ⟨W.heap.size, 0, none⟩) 2 [a, b] :=
  ⟨rfl, fun _ => ⟨_, 0, rfl, fun i z hz => by
    match i, hz with
    | 0, hz => simp at hz; subst hz; simp
    | 1, hz => simp at hz; subst hz; simp⟩⟩
set_option maxHeartbeats 1000000 in
theorem dsame_any {w : World} {A A' : Option Addr} {n m c c' : Nat} {xs ys : List Int} (h : ZsAt w A n xs) (h' : ZsAt w A' m ys) (hn : n ≤ 1000000) :
    Calls Try.prog 18 #[.slice A n c, .slice A' m c'] w fun r w' => r = .returned (.bool (decide (xs = ys))) ∧ ∃ k, w' = w.drewN k := by
  have HB := Lib.hid h
  have HB' := Lib.hid h'
  have hl := h.1
  have hl' := h'.1
  by_cases hlen : n = m
  · subst hlen
    have b0 : ((n : Int) != (n : Int)) = false := by simp
    have HL := Lib.hid hl
    have HL' := Lib.hid hl'
    clear h h' hl hl'
    go_enter Try.func18, Try.ntmps18
    go_wp2_with fail
    go_loopw [5] (fun i wr => ∃ k : Nat, k ≤ n ∧ i = .int .i64 k ∧ (∃ q, wr = w.drewN q) ∧ ∀ j, j < k → xs[j]? = ys[j]?) (fun i _ => n - (intOf i).toNat)
    case atStart => exact ⟨0, by omega, rfl, ⟨0, rfl⟩, fun j hj => by omega⟩
    case round =>
      obtain ⟨k, hk, rfl, ⟨q, rfl⟩, hall⟩ := hrel
      have HA := Lib.hid hall
      clear hall
      by_cases hlt : k < n
      · obtain ⟨b1, o1, rfl, c1⟩ := HB.out.2 (by omega)
        obtain ⟨b2, o2, rfl, c2⟩ := HB'.out.2 (by omega)
        obtain ⟨x, hx⟩ : ∃ x, xs[k]? = some x := ⟨_, List.getElem?_eq_getElem (by have := HL.out; omega)⟩
        obtain ⟨y, hy⟩ : ∃ y, ys[k]? = some y := ⟨_, List.getElem?_eq_getElem (by have := HL'.out; omega)⟩
        have c1 := c1 k x hx
        have c2 := c2 k y hy
        have e1 : (0 : Int) ≤ (k : Int) := Int.natCast_nonneg _
        have e2 : (k : Int) < (n : Int) := by omega
        by_cases hd : x = y
        · subst hd
          have bd : ((x : Int) != (x : Int)) = false := by simp
          have HA2 : Hid (∀ j, j < k + 1 → xs[j]? = ys[j]?) := fun j hj => by
            by_cases e : j = k
            · rw [e, hx, hy]
            · exact HA.out j (by omega)
          clear hx hy
          go_wp2_with fail
          go_quiet (fail)
          go_wp2_with fail
          go_roundw
          case rel => exact ⟨k + 1, by omega, by go_num, ⟨_, rfl⟩, HA2.out⟩
          case measure => simp [intOf]; omega
        · have bd : (x != y) = true := by rw [bne_iff_ne]; exact hd
          have HC : Hid (decide (xs = ys) = false) := by
            show _ = _
            exact decide_eq_false (fun e => hd (by rw [e, hy] at hx; injection hx with hx; exact hx.symm))
          clear hd hx hy
          go_wp2_with fail
          go_quiet (fail)
          go_wp2_with fail
          go_ret
          exact ⟨by rw [HC.out]; rfl, _, World.drewN_drewN ..⟩
      · obtain rfl : k = n := by omega
        have he : Hid (decide (xs = ys) = true) := by
          show _ = _
          refine decide_eq_true (List.ext_getElem? fun j => ?_)
          rcases Nat.lt_or_ge j k with h1 | h1
          · exact HA.out j h1
          · rw [List.getElem?_eq_none (by have := HL.out; omega), List.getElem?_eq_none (by have := HL'.out; omega)]
        clear hlt
        go_wp2_with fail
        go_ret
        exact ⟨by rw [he.out]; rfl, q, rfl⟩
  · have b0 : ((n : Int) != (m : Int)) = true := by rw [bne_iff_ne]; omega
    have HC : Hid (decide (xs = ys) = false) := by
      show _ = _
      exact decide_eq_false (fun e => hlen (by rw [← hl, ← hl', e]))
    clear h h' hl hl' hlen
    go_enter Try.func18, Try.ntmps18
    go_wp2_with fail
    go_ret
    exact ⟨by rw [HC.out]; rfl, 0, rfl⟩
end Go.Proofs.Ytjjoieahodfikaa
/- One timers in a walk; what the document's examples say. -/
namespace Go.Proofs.Ytjjoieahodfikaa
open Go.RowKit Go.Maps Tmr
set_option linter.unusedVariables false
set_option linter.unusedSimpArgs false
set_option maxRecDepth 100000
/-- Timers of one's own. -/
structure One (W w : World) (g mb clk : Nat) (l : List Alarm) : Prop where
  t : TmL w W.heap.size g mb clk l
  k : Keep W w
namespace One
variable {W w w' : World} {g mb clk : Nat} {l : List Alarm}
theorem later (T : One W w g mb clk l) (k : Keep w w') : One W w' g mb clk l := ⟨T.t.keep k, T.k.trans k⟩
theorem fp (T : One W w g mb clk l) (t : Turned (FpT g mb) w w') : Keep W w' := t.keep T.k fun i e => by
  have := T.t.low
  rcases e with rfl | rfl <;> omega
end One
theorem OwnZ.stay {w w' : World} {base n c g mb : Nat} {A : Option Addr} {zs : List Int} (h : OwnZ w base A n c zs) (t : Turned (FpT g mb) w w') (hb : g < base ∧ mb < base) : OwnZ w' base A n c zs :=
  h.turned t fun b hB e => by
    have := (h.low b hB).1
    rcases e with rfl | rfl <;> omega
section
variable {W w : World} {g mb clk : Nat} {l : List Alarm}
theorem one_new (W : World) : Calls Try.prog 9 #[] W fun r w' => ∃ g mb, r = .returned (.pointer (some ⟨g, 0, none⟩)) ∧ One W w' g mb 0 [] :=
  (tnew_any W).mono fun r w' ⟨g, mb, e, h, k⟩ => ⟨g, mb, e, h, k⟩
theorem one_set (T : One W w g mb clk l) (x : Int) (e : Nat) {E : Int} {l2 : List Alarm} (hE : setE l x e = E) (hR : setR clk l x e = l2) (h1 : x < 9223372036854775808) (h2 : -9223372036854775808 ≤ x) (hf : l.length < 100000) :
    Calls Try.prog 10 #[.pointer (some ⟨g, 0, none⟩), .int .i64 x, .int .u64 (e : Int)] w fun r w' => r = .returned (.int .i64 E) ∧ One W w' g mb clk l2 ∧ Turned (FpT g mb) w w' := by
  subst hE hR
  exact (tset_any T.t x h1 h2 e hf).mono fun r w' ⟨e, h, t⟩ => ⟨e, ⟨h, T.fp t⟩, t⟩
theorem one_tick (T : One W w g mb clk l) (n : Nat) {E : Int} {k m : Nat} {zs : List Int} {l2 : List Alarm} (hE : tickE clk n = E) (hC : tickC clk n = k) (hZ : tickZ clk l n = zs) (hm : zs.length = m) (hR : tickR clk l n = l2) (hn : n < 18446744073709551616) :
    Calls Try.prog 16 #[.pointer (some ⟨g, 0, none⟩), .int .u64 (n : Int)] w fun r w' => ∃ A c, r = .returned (.tuple #[.slice A m c, .int .i64 E]) ∧ OwnZ w' w.heap.size A m c zs ∧ One W w' g mb k l2 ∧ Turned (FpT g mb) w w' := by
  subst hE hC hZ hm hR
  refine (ttick_any T.t n hn T.t.few).mono ?_
  rintro r w' ⟨A, m, c, e, o, h, t⟩
  obtain rfl : (tickZ clk l n).length = m := o.length
  exact ⟨A, c, e, o, ⟨h, T.fp t⟩, t⟩
theorem one_next (T : One W w g mb clk l) {v : Nat} {b : Bool} (hv : nextL l = v) (hb : decide (l ≠ []) = b) :
    Calls Try.prog 19 #[.pointer (some ⟨g, 0, none⟩)] w fun r w' => r = .returned (.tuple #[.int .u64 (v : Int), .bool b]) ∧ One W w' g mb clk l ∧ Keep w w' := by
  subst hv hb
  exact (tnext_any T.t).mono fun r w' ⟨e, k⟩ => ⟨e, T.later k, k⟩
end
set_option maxHeartbeats 4000000 in
theorem tawake (W : World) : Calls Try.prog 8 #[] W fun r w' => r = .returned (.bool true) ∧ Keep W w' := by
  go_enter Try.func8, Try.ntmps8
  go_wp2_with fail
  refine (one_new W).mono ?_
  rintro e w0 ⟨g, mb, rfl, t⟩
  have T0 := Lib.hid t
  clear t
  go_wp2_with fail
  refine (one_set T0.out 1 3 (E := 0) (l2 := [⟨1, 3, 3⟩]) (by decide) (by kernel_rfl) (by decide) (by decide) (by decide)).mono ?_
  rintro e w1 ⟨rfl, t, -⟩
  have T1 := Lib.hid t
  clear t
  go_wp2_with fail
  refine (one_set T1.out 0 5 (E := 0) (l2 := [⟨0, 5, 5⟩, ⟨1, 3, 3⟩]) (by decide) (by kernel_rfl) (by decide) (by decide) (by decide)).mono ?_
  rintro e w2 ⟨rfl, t, -⟩
  have T2 := Lib.hid t
  clear t
  go_wp2_with fail
  refine (one_tick T2.out 2 (E := 0) (k := 2) (m := 0) (zs := []) (l2 := [⟨0, 5, 5⟩, ⟨1, 3, 3⟩]) (by decide) (by decide) (by kernel_rfl) rfl (by kernel_rfl) (by decide)).mono ?_
  rintro e w3 ⟨A3, c3, rfl, -, t, -⟩
  have T3 := Lib.hid t
  clear t
  go_wp2_with fail
  refine (one_tick T3.out 1 (E := 0) (k := 3) (m := 1) (zs := [1]) (l2 := [⟨0, 5, 5⟩, ⟨1, 3, 6⟩]) (by decide) (by decide) (by kernel_rfl) rfl (by kernel_rfl) (by decide)).mono ?_
  rintro e w4 ⟨A4, c4, rfl, o4, t, -⟩
  have T4 := Lib.hid t
  have HL3 : Hid (g < w3.heap.size ∧ mb < w3.heap.size) := Lib.hid ⟨T3.out.t.lt, T3.out.t.mlt⟩
  have O4 := Lib.hid o4
  clear t o4
  go_wp2_with fail
  refine (one_tick T4.out 3 (E := 0) (k := 6) (m := 2) (zs := [0, 1]) (l2 := [⟨0, 5, 11⟩, ⟨1, 3, 9⟩]) (by decide) (by decide) (by kernel_rfl) rfl (by kernel_rfl) (by decide)).mono ?_
  rintro e w5 ⟨A5, c5, rfl, o5, t, t5⟩
  have T5 := Lib.hid t
  have O5 := Lib.hid o5
  have O4 := Lib.hid (O4.out.stay t5 HL3.out)
  clear t o5 t5
  go_wp2_with fail
  refine (one_next T5.out (v := 9) (b := true) (by decide) (by decide)).mono ?_
  rintro e w6 ⟨rfl, t, k6⟩
  have T6 := Lib.hid t
  have O5 := Lib.hid (O5.out.keep k6)
  have O4 := Lib.hid (O4.out.keep k6)
  clear t k6
  have kA : Keep w6 (w6.alloc (.cells #[.int .i64 1] 3)) := (Keep.refl w6).alloc _ _
  have S1 := Lib.hid (dsame_any (c := c4) (c' := 1) (O4.out.keep kA).zs (zs_one w6 1 3) (by decide))
  go_wp2_with fail
  refine S1.out.mono ?_
  rintro e w7 ⟨rfl, hq⟩
  have k7 : Keep w6 w7 := by obtain ⟨q, rfl⟩ := hq; exact kA.drewN q
  have T7 := Lib.hid (T6.out.later k7)
  have kB : Keep w7 (w7.alloc (.cells #[.int .i64 0, .int .i64 1] 3)) := (Keep.refl w7).alloc _ _
  have S2 := Lib.hid (dsame_any (c := c5) (c' := 2) ((O5.out.keep k7).keep kB).zs (zs_two w7 0 1 3) (by decide))
  have KB := Lib.hid kB
  clear hq k7 kA kB
  go_wp2_with fail
  refine S2.out.mono ?_
  rintro e w8 ⟨rfl, hq⟩
  have T8 := Lib.hid (T7.out.k.trans (by obtain ⟨q, rfl⟩ := hq; exact KB.out.drewN q : Keep w7 w8))
  clear hq
  go_wp2_with fail
  go_ret
  exact ⟨rfl, T8.out⟩
end Go.Proofs.Ytjjoieahodfikaa
/- TimerParts. -/
namespace Go.Proofs.Ytjjoieahodfikaa
open Go.RowKit Go.Maps Tmr
set_option linter.unusedVariables false
set_option linter.unusedSimpArgs false
set_option maxRecDepth 100000
/-- Of two timers side by side. -/
structure Duo (W w : World) (g mb clk : Nat) (l : List Alarm) (g' mb' clk' : Nat) (l' : List Alarm) : Prop where
  a : TmL w W.heap.size g mb clk l
  b : TmL w W.heap.size g' mb' clk' l'
  k : Keep W w
  ap : (g ≠ g' ∧ g ≠ mb') ∧ mb ≠ g' ∧ mb ≠ mb'
namespace Duo
variable {W w w' : World} {g mb clk g' mb' clk' : Nat} {l l' : List Alarm}
theorem later (T : Duo W w g mb clk l g' mb' clk' l') (k : Keep w w') : Duo W w' g mb clk l g' mb' clk' l' := ⟨T.a.keep k, T.b.keep k, T.k.trans k, T.ap⟩
theorem swap (T : Duo W w g mb clk l g' mb' clk' l') : Duo W w g' mb' clk' l' g mb clk l := ⟨T.b, T.a, T.k, by have := T.ap; omega⟩
theorem one (T : Duo W w g mb clk l g' mb' clk' l') : One W w g mb clk l := ⟨T.a, T.k⟩
theorem step {clk2 : Nat} {l2 : List Alarm} (T : Duo W w g mb clk l g' mb' clk' l') (o : One W w' g mb clk2 l2) (t : Turned (FpT g mb) w w') : Duo W w' g mb clk2 l2 g' mb' clk' l' :=
  ⟨o.t, T.b.turned t (fun e => by have := T.ap; rcases e with e | e <;> omega) (fun e => by have := T.ap; rcases e with e | e <;> omega), o.k, T.ap⟩
end Duo
section
variable {W w : World} {g mb clk g' mb' clk' : Nat} {l l' : List Alarm}
end
def toldN (d clk : Nat) : Nat := if d ≤ clk then 1 else 0
theorem tickE_ok {clk n : Nat} (h : clk + n ≤ maxT) : tickE clk n = 0 := by unfold tickE; rw [if_neg (by omega)]
theorem tickC_ok {clk n : Nat} (h : clk + n ≤ maxT) : tickC clk n = clk + n := by unfold tickC; rw [if_neg (by omega)]
/-- What holds between two Ticks: as long as it was not told it is due at its every; once told, its time has been reached. -/
structure PartI (e sum d n : Nat) : Prop where
  no : n = 0 → d = e ∧ sum < e
  yes : 0 < n → e ≤ sum
theorem PartI.end_ {e sum d n : Nat} (h : PartI e sum d n) : toldN e sum ≤ n ∧ (0 < n ↔ 0 < toldN e sum) := by
  unfold toldN
  by_cases h0 : n = 0
  · have := h.no h0
    rw [if_neg (by omega)]; omega
  · have := h.yes (by omega)
    rw [if_pos this]; omega
end Go.Proofs.Ytjjoieahodfikaa
/- TimerTells: alarms by their places, plainly; times in memory; a map of what was told. -/
namespace Go.Proofs.Ytjjoieahodfikaa
open Go.RowKit Go.Maps Tmr
set_option linter.unusedVariables false
set_option linter.unusedSimpArgs false
set_option maxRecDepth 100000
/-- The first m alarms: of every E, due at D. -/
def almsL (E D : Nat → Nat) (m : Nat) : List Alarm := (List.range m).map fun k => ⟨k, E k, D k⟩
theorem mem_almsL {E D : Nat → Nat} {m : Nat} {a : Alarm} : a ∈ almsL E D m ↔ a.name < m ∧ a.every = E a.name ∧ a.due = D a.name := by
  unfold almsL
  rw [List.mem_map]
  constructor
  · rintro ⟨k, hk, rfl⟩
    exact ⟨List.mem_range.1 hk, rfl, rfl⟩
  · rintro ⟨h1, h2, h3⟩
    refine ⟨a.name, List.mem_range.2 h1, ?_⟩
    cases a; simp_all
theorem almsL_length (E D : Nat → Nat) (m : Nat) : (almsL E D m).length = m := by simp [almsL]
theorem almsL_rising (E D : Nat → Nat) (m : Nat) : Rising (almsL E D m) := by
  unfold almsL Rising
  rw [List.pairwise_map]
  exact List.pairwise_lt_range
theorem setL_last {a : Alarm} : ∀ {l : List Alarm}, (∀ b ∈ l, b.name < a.name) → setL a l = l ++ [a]
  | [], _ => rfl
  | b :: r, h => by
    unfold setL
    rw [if_pos (h b List.mem_cons_self), setL_last fun c hc => h c (List.mem_cons_of_mem _ hc)]
    rfl
theorem almsL_set {E : Nat → Nat} {m : Nat} (h1 : ∀ k, 1 ≤ E k ∧ E k ≤ 65536) : setE (almsL E E m) (m : Int) (E m) = 0 ∧ setR 0 (almsL E E m) (m : Int) (E m) = almsL E E (m + 1) := by
  have hm := h1 m
  have h : setE (almsL E E m) (m : Int) (E m) = 0 := by
    unfold setE maxT
    rw [if_neg (by omega), if_neg]
    rintro ⟨a, ha, e⟩
    have := (mem_almsL.1 ha).1
    omega
  refine ⟨h, ?_⟩
  unfold setR
  rw [if_pos h, show later 0 (E m) = E m by unfold later maxT; omega, Int.toNat_natCast, setL_last fun b hb => (mem_almsL.1 hb).1]
  unfold almsL
  rw [List.range_succ, List.map_append]; rfl
/-- What a Tick leaves of the times. -/
def tickD (E D : Nat → Nat) (c k : Nat) : Nat := if D k ≤ c then c + E k else D k
theorem almsL_tick {E D : Nat → Nat} {m c : Nat} (h : ∀ k, E k ≤ 65536) (hc : c ≤ 200000000000) : tickL c (almsL E D m) = almsL E (tickD E D c) m := by
  unfold tickL almsL
  rw [List.map_map]
  refine List.map_congr_left fun k hk => ?_
  simp only [Function.comp, tickD]
  by_cases hd : D k ≤ c
  · rw [if_pos hd, if_pos hd]
    have := h k
    unfold anew later maxT
    simp only [Alarm.mk.injEq, true_and]
    omega
  · rw [if_neg hd, if_neg hd]
/-- What is told: places, by rising times. -/
structure ToldZ (D : Nat → Nat) (m c : Nat) (zs : List Int) : Prop where
  nodup : zs.Nodup
  mem : ∀ z, z ∈ zs ↔ ∃ k, k < m ∧ D k ≤ c ∧ z = (k : Int)
  rise : ∀ (i j : Nat) (x y : Nat), i ≤ j → zs[i]? = some (x : Int) → zs[j]? = some (y : Int) → D x ≤ D y
theorem toldZ_of (E D : Nat → Nat) (m c : Nat) : ToldZ D m c (namesZ (dueL c (almsL E D m))) := by
  have hR := almsL_rising E D m
  have ho := dueL_ordered (c := c) hR
  have hm : ∀ a, a ∈ dueL c (almsL E D m) ↔ a ∈ almsL E D m ∧ a.due ≤ c := fun a => mem_dueL hR
  have hpw : (dueL c (almsL E D m)).Pairwise fun a b => a.due ≤ b.due ∧ a.name ≠ b.name := by
    unfold Ordered at ho
    refine ho.imp_of_mem fun {a b} ha hb hab => ?_
    have h1 := mem_almsL.1 ((hm a).1 ha).1
    have h2 := mem_almsL.1 ((hm b).1 hb).1
    unfold Ahead at hab
    refine ⟨by omega, fun e => ?_⟩
    have : a.due = b.due := by rw [h1.2.2, h2.2.2, e]
    omega
  refine ⟨?_, fun z => ?_, fun i j x y hij hx hy => ?_⟩
  · unfold namesZ List.Nodup
    rw [List.pairwise_map]
    exact hpw.imp fun {a b} h => by have := h.2; omega
  · unfold namesZ
    rw [List.mem_map]
    constructor
    · rintro ⟨a, ha, rfl⟩
      obtain ⟨h1, h2⟩ := (hm a).1 ha
      have h3 := mem_almsL.1 h1
      exact ⟨a.name, h3.1, by rw [← h3.2.2]; exact h2, rfl⟩
    · rintro ⟨k, h1, h2, rfl⟩
      exact ⟨⟨k, E k, D k⟩, (hm _).2 ⟨mem_almsL.2 ⟨h1, rfl, rfl⟩, h2⟩, rfl⟩
  · unfold namesZ at hx hy
    rw [List.getElem?_map] at hx hy
    cases hxa : (dueL c (almsL E D m))[i]? with
    | none => rw [hxa] at hx; cases hx
    | some a =>
      cases hyb : (dueL c (almsL E D m))[j]? with
      | none => rw [hyb] at hy; cases hy
      | some b =>
        rw [hxa] at hx
        rw [hyb] at hy
        have hx : (a.name : Int) = (x : Int) := by simpa using hx
        have hy : (b.name : Int) = (y : Int) := by simpa using hy
        have ha := mem_almsL.1 ((hm a).1 (List.mem_of_getElem? hxa)).1
        have hb := mem_almsL.1 ((hm b).1 (List.mem_of_getElem? hyb)).1
        have ex : a.name = x := by omega
        have ey : b.name = y := by omega
        rw [ex] at ha
        rw [ey] at hb
        rcases Nat.lt_or_ge i j with hlt | hge
        · obtain ⟨hi, e1⟩ := List.getElem?_eq_some_iff.1 hxa
          obtain ⟨hj, e2⟩ := List.getElem?_eq_some_iff.1 hyb
          have := (List.pairwise_iff_getElem.1 hpw i j hi hj hlt).1
          rw [e1, e2] at this; omega
        · obtain rfl : i = j := by omega
          rw [hxa] at hyb
          injection hyb with e
          subst e
          omega
theorem frozen_new (w : World) (c : Array Value) (t : TypeId) (k : Nat) : (w.alloc (.cells c t)).frozen? ⟨w.heap.size, k, none⟩ = false := by
  unfold World.frozen?
  rw [show (w.alloc (.cells c t)).heap[(⟨w.heap.size, k, none⟩ : Addr).block]? = some (.cells c t (0, 0)) from heap_alloc_new w _]
  simp
/-- Times in block B: m of them, f. -/
def AtU (w : World) (B m : Nat) (f : Nat → Nat) : Prop := ∀ k, k < m → w.cell? ⟨B, k, none⟩ = some (.int .u64 (f k : Int)) ∧ w.frozen? ⟨B, k, none⟩ = false
namespace AtU
variable {w w' : World} {B m : Nat} {f : Nat → Nat}
theorem turned {F : Nat → Prop} (h : AtU w B m f) (hB : B < w.heap.size) (t : Turned F w w') (hn : ¬ F B) : AtU w' B m f := fun k hk => by
  have e := t.block B hB hn
  rw [World.cell?_of_block (w := w) e, World.frozen?_of_block (w := w) e]; exact h k hk
theorem stored (h : AtU w B m f) {k : Nat} (hk : k < m) (v : Nat) : AtU (w.setCell ⟨B, k, none⟩ (.int .u64 (v : Int))) B m (fun j => if j = k then v else f j) := fun j hj => by
  constructor
  · by_cases e : j = k
    · subst e
      show _ = some (Value.int .u64 ((if j = j then v else f j : Nat) : Int))
      rw [if_pos rfl]
      exact World.cell?_setCell_same (h := (h j hj).1) ..
    · show _ = some (Value.int .u64 ((if j = k then v else f j : Nat) : Int))
      rw [if_neg e]
      rw [show (w.setCell ⟨B, k, none⟩ (.int .u64 (v : Int))).cell? ⟨B, j, none⟩ = w.cell? ⟨B, j, none⟩ from World.cell?_setCell_other (h := fun e2 => e (by injection e2 with _ e2; exact e2.symm)) ..]
      exact (h j hj).1
  · rw [World.frozen?_setCell]; exact (h j hj).2
theorem congr {f' : Nat → Nat} (h : AtU w B m f) (e : ∀ k, k < m → f' k = f k) : AtU w B m f' := fun k hk => by rw [e k hk]; exact h k hk
theorem made (w : World) (m : Nat) (t : TypeId) : AtU (w.alloc (.cells (madeCells #[.int .u64 0] m) t)) w.heap.size m (fun _ => 0) := fun k hk => by
  constructor
  · rw [cell_of_row _ _ _ _ _ _ (heap_alloc_new w _)]
    rw [← Array.getElem?_toList, toList_madeCells_one]
    simp [hk]
  · exact frozen_new w _ _ _
end AtU
theorem run_make_us {P : Program} {t e : TypeId} (ht : P.underlying t = some (.slice e)) (hi : (P.info? e).map (fun i => (i.zero, i.size, i.bytes)) = some (some (.int .u64 0), 1, 8)) (n : Nat) (hn : n ≤ 1000000) (w : World) :
    (Instr.makeSlice t (.int .i64 (n : Int)) (.int .i64 (n : Int))).run P w = .ok (.slice (some ⟨w.heap.size, 0, none⟩) n n) (w.alloc (.cells (madeCells #[.int .u64 0] n) e)) := by
  obtain ⟨i0, hi0, hz0, hz1, hz2⟩ := info_parts hi
  have h := run_make (P := P) w t e i0 (.int .u64 0) ht hi0 hz0 .i64 .i64 n n (by omega) (Int.le_refl _) (by rw [hz2]; omega) (by omega)
  simpa [hz1, Value.cells] using h
theorem infoU64 : (Try.prog.info? 27).map (fun i => (i.zero, i.size, i.bytes)) = some (some (.int .u64 0), 1, 8) := by kernel_rfl
/-- A map in block B of at most n names, that tells of those in S. -/
def MapT (w : World) (B n : Nat) (S : Int → Bool) : Prop :=
  ∃ D : DataW Unit, w.ownsMap Try.prog 3 (plainElem Try.prog 3) B n D ∧ ∀ z, (Lit.int .i64 z).wf = true → D.atKey (.int .i64 z) (.lit (.int .i64 0)) = .lit (.int .i64 (if S z then 1 else 0))
theorem zeroZ (w : World) : (zeroValue 3).run Try.prog w = .ok (.int .i64 0) w := by kernel_rfl
namespace MapT
variable {w w' : World} {B n : Nat} {S : Int → Bool}
theorem made (w : World) : MapT (w.alloc (.map #[] 0)) w.heap.size 0 (fun _ => false) := ⟨_, World.ownsMap_made _ _ _ _, fun z _ => atKey_of_not_has (by rfl) _⟩
theorem block (h : MapT w B n S) (e : w'.heap[B]? = w.heap[B]?) : MapT w' B n S := by
  obtain ⟨D, ⟨es, clock, hb, r⟩, h2⟩ := h
  exact ⟨D, ⟨es, clock, e.trans hb, r⟩, h2⟩
theorem lt (h : MapT w B n S) : B < w.heap.size := by obtain ⟨D, h1, _⟩ := h; exact h1.lt
theorem turned {F : Nat → Prop} (h : MapT w B n S) (t : Turned F w w') (hn : ¬ F B) : MapT w' B n S := h.block (t.block B h.lt hn)
theorem look (h : MapT w B n S) {z : Int} (hz : (Lit.int .i64 z).wf = true) {b : Bool} (hb : S z = b) : (Instr.lookup 56 (.map (some B)) (.int .i64 z) false).run Try.prog w = .ok (.int .i64 (if b then 1 else 0)) w := by
  obtain ⟨D, h1, h2⟩ := h
  obtain ⟨c, hrun, hat, _⟩ := h1.lookup_int keyedI Try.underlying56 Try.underlying3 (zeroZ w) (keyI hz)
  rw [h2 z hz, hb] at hat
  injection hat with hat; injection hat with _ hat
  rw [hrun, ← hat]
theorem put (h : MapT w B n S) {z : Int} (hz : (Lit.int .i64 z).wf = true) (hn : n ≤ 1000000) :
    ∃ w', (Instr.mapUpdate 56 (.map (some B)) (.int .i64 z) (.int .i64 1)).run Try.prog w = .ok () w' ∧ MapT w' B (n + 1) (fun y => S y || decide (y = z)) ∧ Turned (fun b => b = B) w w' := by
  obtain ⟨D, h1, h2⟩ := h
  obtain ⟨w', r1, r2, r3⟩ := h1.update keyedI Try.underlying56 (by unfold maxLen; omega) (keyI hz) (plainElem_int Try.underlying3 (a := 1) (by decide))
  refine ⟨w', r1, ⟨_, r2, fun y hy => ?_⟩, Turned.of_grown r3 fun i e => (Option.some.inj e).symm⟩
  by_cases e : y = z
  · subst e
    rw [atKey_put_same h1.isMap (keyedI.key (keyI hz))]
    simp
  · rw [atKey_put_other (fun e2 => e (lit_in e2)), h2 y hy]
    simp [e]
end MapT
end Go.Proofs.Ytjjoieahodfikaa
