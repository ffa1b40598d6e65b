/- The landed timers: Next. -/
import Derived.Test.YtjjoieahodfikaaQae
import Derived.Test.YtjjoieahodfikaaQac
import Derived.Test.YtjjoieahodfikaaTf7
import Derived.Test.YtjjoieahodfikaaQaa
namespace Go.Proofs.Ytjjoieahodfikaa
open Go.RowKit Go.Maps Tmr
set_option linter.unusedVariables false
set_option linter.unusedSimpArgs false
set_option maxRecDepth 100000
theorem run_minT (a b m : Nat) (h : min a b = m) (w : World) : (Builtin.min_ #[27, 27] 27 #[.int .u64 (a : Int), .int .u64 (b : Int)]).run Try.prog w = .ok (.int .u64 (m : Int)) w := by
  rw [run_min_int2]; congr 2; split <;> omega
/-- The least so far. -/
structure LeastT (l : List Alarm) (left : Lit → Bool) (m : Nat) : Prop where
  top : m ≤ maxT
  le : ∀ a ∈ l, left (.int .i64 (a.name : Int)) = false → m ≤ a.due
  is : m = maxT ∨ ∃ a ∈ l, a.due = m
theorem LeastT.put {l : List Alarm} {left left' : Lit → Bool} {m : Nat} {b : Alarm} (h : LeastT l left m) (hR : Rising l) (hb : b ∈ l) (h' : ∀ c ∈ l, left' (.int .i64 (c.name : Int)) = (left (.int .i64 (c.name : Int)) && !decide (c.name = b.name))) : LeastT l left' (min m b.due) := by
  refine ⟨by have := h.top; omega, fun a ha e => ?_, ?_⟩
  · rw [h' a ha] at e
    by_cases hn : a.name = b.name
    · rw [rising_inj hR ha hb hn]; omega
    · simp [hn] at e
      have := h.le a ha e; omega
  · by_cases hm : m ≤ b.due
    · rw [show min m b.due = m by omega]; exact h.is
    · exact Or.inr ⟨b, hb, by omega⟩
theorem LeastT.end_ {l : List Alarm} {left : Lit → Bool} {m : Nat} (h : LeastT l left m) (hf : ∀ kl, left kl = false) (hne : l ≠ []) (hfine : ∀ a ∈ l, FineA a) : m = nextL l := by
  obtain ⟨a, ha, e⟩ := nextL_mem hne
  have h1 := h.le a ha (hf _)
  have h2 := (hfine a ha).2.2.2
  rcases h.is with h3 | ⟨b, hb, h3⟩
  · omega
  · have := nextL_le hb; omega
set_option maxHeartbeats 2000000 in
theorem tnext_any {w : World} {B g mb clk : Nat} {l : List Alarm} (h : TmL w B g mb clk l) :
    Calls Try.prog 19 #[.pointer (some ⟨g, 0, none⟩)] w fun r w' => r = .returned (.tuple #[.int .u64 (nextL l : Int), .bool (decide (l ≠ []))]) ∧ Keep w w' := by
  have CM := Lib.hid (tmade h)
  have c1 := h.c1
  have hR := Lib.hid h.rising
  have hfine := Lib.hid h.fine
  have hm := h.map
  have HM := Lib.hid h.mlt
  have hlen := h.map.len 3
  by_cases hne : l = []
  · subst hne
    have e : ((([] : List Alarm).length : Nat) : Int) = 0 := rfl
    rw [e] at hlen
    have e1 : decide (([] : List Alarm) ≠ []) = false := decide_eq_false (by simp)
    rw [e1]
    have e2 : ((nextL [] : Nat) : Int) = 0 := rfl
    rw [e2]
    clear h hm e e1 e2
    go_enter Try.func19, Try.ntmps19
    go_wp2_with fail
    refine CM.out.mono ?_
    rintro e w1 ⟨rfl, hw⟩
    obtain rfl : w = w1 := hw.symm
    go_wp2_with fail
    go_ret2
    exact ⟨rfl, Keep.refl _⟩
  · have hl0 : 0 < l.length := List.length_pos_iff.2 hne
    obtain ⟨q, hq⟩ : ∃ q, l.length = q := ⟨_, rfl⟩
    rw [hq] at hlen
    have b1 : ((q : Int) == 0) = false := beq_eq_false_iff_ne.2 (by omega)
    have b2 : decide ((q : Int) = 0) = false := decide_eq_false (by omega)
    have b3 : decide (q = 0) = false := decide_eq_false (by omega)
    rw [show decide (l ≠ []) = true from decide_eq_true hne]
    have HNE := Lib.hid hne
    clear h hl0 hq hne
    go_enter Try.func19, Try.ntmps19
    go_wp2_with fail
    refine CM.out.mono ?_
    rintro e w1 ⟨rfl, hw⟩
    obtain rfl : w = w1 := hw.symm
    go_wp2_with (at_range; refine wpList_range_al rfl _ rfl rfl hm ?_; intro w0 left hl0 it0 k0 s0)
    go_frame
    have HS := Lib.hid s0
    clear s0 hm c1 hlen b1 b2 b3
    go_loopw [4] (fun nv wr => ∃ (m cnt : Nat) (left : Lit → Bool), nv = .int .u64 (m : Int) ∧ ItA wr mb w.heap.size l left cnt ∧ LeastT l left m ∧ Keep w wr ∧ w.heap.size + 1 ≤ wr.heap.size) (fun nv wr => wr.rangeLeft mb w.heap.size)
    case atStart => exact ⟨maxT, l.length, left, rfl, it0, ⟨Nat.le_refl _, fun a ha e => (by rw [hl0 a ha] at e; cases e), Or.inl rfl⟩, k0, by have := HS.out; omega⟩
    case round =>
      obtain ⟨m, cnt, left, rfl, it, hg, kk, hsz⟩ := hrel
      have HG := Lib.hid hg
      have HK := Lib.hid kk
      have HZ := Lib.hid hsz
      have IT := Lib.hid it
      clear hg kk hsz
      go_wp2_with (at_next; refine wpList_next_al rfl _ rfl rfl it ?_ ?_)
      · intro h0 hf
        have HE := Lib.hid (HG.out.end_ hf HNE.out hfine.out)
        clear hf it h0
        go_wp2_with fail
        go_ret2
        exact ⟨by rw [HE.out]; rfl, HK.out⟩
      · intro b w2 left2 cnt2 hb hlb hl2 it2 hlt t2 s2 hen
        unfold almC at hen
        have kA : Keep w2 (w2.alloc (.cells #[.int .u64 (b.every : Int), .int .u64 (b.due : Int)] 64)) := (Keep.refl w2).alloc _ _
        have k3 : Keep w (w2.alloc (.cells #[.int .u64 (b.every : Int), .int .u64 (b.due : Int)] 64)) := (t2.keep HK.out fun x e => by omega).trans kA
        have I3 := Lib.hid (it2.turned (Turned.of_keep (F := fun _ => False) kA) (fun e => e) (fun e => e))
        have d0 : (w2.alloc (.cells #[.int .u64 (b.every : Int), .int .u64 (b.due : Int)] 64)).cell? ⟨w2.heap.size, 1, none⟩ = some (.int .u64 (b.due : Int)) := by simp
        have G3 := Lib.hid (HG.out.put hR.out hb hl2)
        obtain ⟨v, hv⟩ : ∃ v, min m b.due = v := ⟨_, rfl⟩
        rw [hv] at G3
        have hmn := run_minT m b.due v hv (w2.alloc (.cells #[.int .u64 (b.every : Int), .int .u64 (b.due : Int)] 64))
        have L3 := Lib.hid hlt
        have K3 := Lib.hid k3
        have HZ3 : Hid (w.heap.size + 1 ≤ (w2.alloc (.cells #[.int .u64 (b.every : Int), .int .u64 (b.due : Int)] 64)).heap.size) := Lib.hid (by have := HZ.out; have := t2.size; have := kA.size; omega)
        clear it t2 s2 hb hlb hl2 it2 hlt kA k3 hv
        go_wp2_with fail
        go_roundw
        case rel => exact ⟨v, cnt2, left2, rfl, I3.out, G3.out, K3.out, HZ3.out⟩
        case measure =>
          rw [I3.out.left_eq, IT.out.left_eq]
          exact L3.out
end Go.Proofs.Ytjjoieahodfikaa
/- Ints compared (the document's own); what the document's examples say. -/
namespace Go.Proofs.Ytjjoieahodfikaa
open Go.RowKit Go.Maps Tmr
set_option linter.unusedVariables false
set_option linter.unusedSimpArgs false
set_option maxRecDepth 100000
/-- A slice of n ints, as it is read. -/
def ZsAt (w : World) (A : Option Addr) (n : Nat) (zs : List Int) : Prop :=
  zs.length = n ∧ (0 < n → ∃ b off, A = some ⟨b, off, none⟩ ∧ ∀ i z, zs[i]? = some z → w.cell? ⟨b, off + i, none⟩ = some (.int .i64 z))
theorem OwnZ.zs {w : World} {base n c : Nat} {A : Option Addr} {zs : List Int} (h : OwnZ w base A n c zs) : ZsAt w A n zs := by
  refine ⟨h.length, fun hn => ?_⟩
  obtain ⟨g, z, rfl, _, _, _, _⟩ := h.at_ hn
  refine ⟨g, 0, rfl, fun i z hz => ?_⟩
  obtain ⟨g', z', e, _, _, hz', hc⟩ := h.at_ (i := i) (by have := (List.getElem?_eq_some_iff.1 hz).1; have := h.length; omega)
  injection e with e
  injection e with e1
  subst e1
  rw [hz] at hz'
  injection hz' with hz'
  subst hz'
  exact hc
theorem zs_one (W : World) (a : Int) (t : TypeId) : ZsAt (W.alloc (.cells #[.int .i64 a] t)) (some ⟨W.heap.size, 0, none⟩) 1 [a] :=
  ⟨rfl, fun _ => ⟨_, 0, rfl, fun i z hz => by
    match i, hz with
    | 0, hz => simp at hz; subst hz; simp⟩⟩
theorem zs_two (W : World) (a b : Int) (t : TypeId) : ZsAt (W.alloc (.cells #[.int .i64 a, .int .i64 b] t)) (some ⟨W.heap.size, 0, none⟩) 2 [a, b] :=
  ⟨rfl, fun _ => ⟨_, 0, rfl, fun i z hz => by
    match i, hz with
    | 0, hz => simp at hz; subst hz; simp
    | 1, hz => simp at hz; subst hz; simp⟩⟩
set_option maxHeartbeats 1000000 in
theorem dsame_any {w : World} {A A' : Option Addr} {n m c c' : Nat} {xs ys : List Int} (h : ZsAt w A n xs) (h' : ZsAt w A' m ys) (hn : n ≤ 1000000) :
    Calls Try.prog 18 #[.slice A n c, .slice A' m c'] w fun r w' => r = .returned (.bool (decide (xs = ys))) ∧ ∃ k, w' = w.drewN k := by
  have HB := Lib.hid h
  have HB' := Lib.hid h'
  have hl := h.1
  have hl' := h'.1
  by_cases hlen : n = m
  · subst hlen
    have b0 : ((n : Int) != (n : Int)) = false := by simp
    have HL := Lib.hid hl
    have HL' := Lib.hid hl'
    clear h h' hl hl'
    go_enter Try.func18, Try.ntmps18
    go_wp2_with fail
    go_loopw [5] (fun i wr => ∃ k : Nat, k ≤ n ∧ i = .int .i64 k ∧ (∃ q, wr = w.drewN q) ∧ ∀ j, j < k → xs[j]? = ys[j]?) (fun i _ => n - (intOf i).toNat)
    case atStart => exact ⟨0, by omega, rfl, ⟨0, rfl⟩, fun j hj => by omega⟩
    case round =>
      obtain ⟨k, hk, rfl, ⟨q, rfl⟩, hall⟩ := hrel
      have HA := Lib.hid hall
      clear hall
      by_cases hlt : k < n
      · obtain ⟨b1, o1, rfl, c1⟩ := HB.out.2 (by omega)
        obtain ⟨b2, o2, rfl, c2⟩ := HB'.out.2 (by omega)
        obtain ⟨x, hx⟩ : ∃ x, xs[k]? = some x := ⟨_, List.getElem?_eq_getElem (by have := HL.out; omega)⟩
        obtain ⟨y, hy⟩ : ∃ y, ys[k]? = some y := ⟨_, List.getElem?_eq_getElem (by have := HL'.out; omega)⟩
        have c1 := c1 k x hx
        have c2 := c2 k y hy
        have e1 : (0 : Int) ≤ (k : Int) := Int.natCast_nonneg _
        have e2 : (k : Int) < (n : Int) := by omega
        by_cases hd : x = y
        · subst hd
          have bd : ((x : Int) != (x : Int)) = false := by simp
          have HA2 : Hid (∀ j, j < k + 1 → xs[j]? = ys[j]?) := fun j hj => by
            by_cases e : j = k
            · rw [e, hx, hy]
            · exact HA.out j (by omega)
          clear hx hy
          go_wp2_with fail
          go_quiet (fail)
          go_wp2_with fail
          go_roundw
          case rel => exact ⟨k + 1, by omega, by go_num, ⟨_, rfl⟩, HA2.out⟩
          case measure => simp [intOf]; omega
        · have bd : (x != y) = true := by rw [bne_iff_ne]; exact hd
          have HC : Hid (decide (xs = ys) = false) := by
            show _ = _
            exact decide_eq_false (fun e => hd (by rw [e, hy] at hx; injection hx with hx; exact hx.symm))
          clear hd hx hy
          go_wp2_with fail
          go_quiet (fail)
          go_wp2_with fail
          go_ret
          exact ⟨by rw [HC.out]; rfl, _, World.drewN_drewN ..⟩
      · obtain rfl : k = n := by omega
        have he : Hid (decide (xs = ys) = true) := by
          show _ = _
          refine decide_eq_true (List.ext_getElem? fun j => ?_)
          rcases Nat.lt_or_ge j k with h1 | h1
          · exact HA.out j h1
          · rw [List.getElem?_eq_none (by have := HL.out; omega), List.getElem?_eq_none (by have := HL'.out; omega)]
        clear hlt
        go_wp2_with fail
        go_ret
        exact ⟨by rw [he.out]; rfl, q, rfl⟩
  · have b0 : ((n : Int) != (m : Int)) = true := by rw [bne_iff_ne]; omega
    have HC : Hid (decide (xs = ys) = false) := by
      show _ = _
      exact decide_eq_false (fun e => hlen (by rw [← hl, ← hl', e]))
    clear h h' hl hl' hlen
    go_enter Try.func18, Try.ntmps18
    go_wp2_with fail
    go_ret
    exact ⟨by rw [HC.out]; rfl, 0, rfl⟩
end Go.Proofs.Ytjjoieahodfikaa
/- One timers in a walk; what the document's examples say. -/
namespace Go.Proofs.Ytjjoieahodfikaa
open Go.RowKit Go.Maps Tmr
set_option linter.unusedVariables false
set_option linter.unusedSimpArgs false
set_option maxRecDepth 100000
/-- Timers of one's own. -/
structure One (W w : World) (g mb clk : Nat) (l : List Alarm) : Prop where
  t : TmL w W.heap.size g mb clk l
  k : Keep W w
namespace One
variable {W w w' : World} {g mb clk : Nat} {l : List Alarm}
theorem later (T : One W w g mb clk l) (k : Keep w w') : One W w' g mb clk l := ⟨T.t.keep k, T.k.trans k⟩
theorem fp (T : One W w g mb clk l) (t : Turned (FpT g mb) w w') : Keep W w' := t.keep T.k fun i e => by
  have := T.t.low
  rcases e with rfl | rfl <;> omega
end One
theorem OwnZ.stay {w w' : World} {base n c g mb : Nat} {A : Option Addr} {zs : List Int} (h : OwnZ w base A n c zs) (t : Turned (FpT g mb) w w') (hb : g < base ∧ mb < base) : OwnZ w' base A n c zs :=
  h.turned t fun b hB e => by
    have := (h.low b hB).1
    rcases e with rfl | rfl <;> omega
section
variable {W w : World} {g mb clk : Nat} {l : List Alarm}
theorem one_new (W : World) : Calls Try.prog 9 #[] W fun r w' => ∃ g mb, r = .returned (.pointer (some ⟨g, 0, none⟩)) ∧ One W w' g mb 0 [] :=
  (tnew_any W).mono fun r w' ⟨g, mb, e, h, k⟩ => ⟨g, mb, e, h, k⟩
theorem one_set (T : One W w g mb clk l) (x : Int) (e : Nat) {E : Int} {l2 : List Alarm} (hE : setE l x e = E) (hR : setR clk l x e = l2) (h1 : x < 9223372036854775808) (h2 : -9223372036854775808 ≤ x) (hf : l.length < 100000) :
    Calls Try.prog 10 #[.pointer (some ⟨g, 0, none⟩), .int .i64 x, .int .u64 (e : Int)] w fun r w' => r = .returned (.int .i64 E) ∧ One W w' g mb clk l2 ∧ Turned (FpT g mb) w w' := by
  subst hE hR
  exact (tset_any T.t x h1 h2 e hf).mono fun r w' ⟨e, h, t⟩ => ⟨e, ⟨h, T.fp t⟩, t⟩
theorem one_tick (T : One W w g mb clk l) (n : Nat) {E : Int} {k m : Nat} {zs : List Int} {l2 : List Alarm} (hE : tickE clk n = E) (hC : tickC clk n = k) (hZ : tickZ clk l n = zs) (hm : zs.length = m) (hR : tickR clk l n = l2) (hn : n < 18446744073709551616) :
    Calls Try.prog 16 #[.pointer (some ⟨g, 0, none⟩), .int .u64 (n : Int)] w fun r w' => ∃ A c, r = .returned (.tuple #[.slice A m c, .int .i64 E]) ∧ OwnZ w' w.heap.size A m c zs ∧ One W w' g mb k l2 ∧ Turned (FpT g mb) w w' := by
  subst hE hC hZ hm hR
  refine (ttick_any T.t n hn T.t.few).mono ?_
  rintro r w' ⟨A, m, c, e, o, h, t⟩
  obtain rfl : (tickZ clk l n).length = m := o.length
  exact ⟨A, c, e, o, ⟨h, T.fp t⟩, t⟩
theorem one_next (T : One W w g mb clk l) {v : Nat} {b : Bool} (hv : nextL l = v) (hb : decide (l ≠ []) = b) :
    Calls Try.prog 19 #[.pointer (some ⟨g, 0, none⟩)] w fun r w' => r = .returned (.tuple #[.int .u64 (v : Int), .bool b]) ∧ One W w' g mb clk l ∧ Keep w w' := by
  subst hv hb
  exact (tnext_any T.t).mono fun r w' ⟨e, k⟩ => ⟨e, T.later k, k⟩
end
set_option maxHeartbeats 4000000 in
theorem tawake (W : World) : Calls Try.prog 8 #[] W fun r w' => r = .returned (.bool true) ∧ Keep W w' := by
  go_enter Try.func8, Try.ntmps8
  go_wp2_with fail
  refine (one_new W).mono ?_
  rintro e w0 ⟨g, mb, rfl, t⟩
  have T0 := Lib.hid t
  clear t
  go_wp2_with fail
  refine (one_set T0.out 1 3 (E := 0) (l2 := [⟨1, 3, 3⟩]) (by decide) (by kernel_rfl) (by decide) (by decide) (by decide)).mono ?_
  rintro e w1 ⟨rfl, t, -⟩
  have T1 := Lib.hid t
  clear t
  go_wp2_with fail
  refine (one_set T1.out 0 5 (E := 0) (l2 := [⟨0, 5, 5⟩, ⟨1, 3, 3⟩]) (by decide) (by kernel_rfl) (by decide) (by decide) (by decide)).mono ?_
  rintro e w2 ⟨rfl, t, -⟩
  have T2 := Lib.hid t
  clear t
  go_wp2_with fail
  refine (one_tick T2.out 2 (E := 0) (k := 2) (m := 0) (zs := []) (l2 := [⟨0, 5, 5⟩, ⟨1, 3, 3⟩]) (by decide) (by decide) (by kernel_rfl) rfl (by kernel_rfl) (by decide)).mono ?_
  rintro e w3 ⟨A3, c3, rfl, -, t, -⟩
  have T3 := Lib.hid t
  clear t
  go_wp2_with fail
  refine (one_tick T3.out 1 (E := 0) (k := 3) (m := 1) (zs := [1]) (l2 := [⟨0, 5, 5⟩, ⟨1, 3, 6⟩]) (by decide) (by decide) (by kernel_rfl) rfl (by kernel_rfl) (by decide)).mono ?_
  rintro e w4 ⟨A4, c4, rfl, o4, t, -⟩
  have T4 := Lib.hid t
  have HL3 : Hid (g < w3.heap.size ∧ mb < w3.heap.size) := Lib.hid ⟨T3.out.t.lt, T3.out.t.mlt⟩
  have O4 := Lib.hid o4
  clear t o4
  go_wp2_with fail
  refine (one_tick T4.out 3 (E := 0) (k := 6) (m := 2) (zs := [0, 1]) (l2 := [⟨0, 5, 11⟩, ⟨1, 3, 9⟩]) (by decide) (by decide) (by kernel_rfl) rfl (by kernel_rfl) (by decide)).mono ?_
  rintro e w5 ⟨A5, c5, rfl, o5, t, t5⟩
  have T5 := Lib.hid t
  have O5 := Lib.hid o5
  have O4 := Lib.hid (O4.out.stay t5 HL3.out)
  clear t o5 t5
  go_wp2_with fail
  refine (one_next T5.out (v := 9) (b := true) (by decide) (by decide)).mono ?_
  rintro e w6 ⟨rfl, t, k6⟩
  have T6 := Lib.hid t
  have O5 := Lib.hid (O5.out.keep k6)
  have O4 := Lib.hid (O4.out.keep k6)
  clear t k6
  have kA : Keep w6 (w6.alloc (.cells #[.int .i64 1] 3)) := (Keep.refl w6).alloc _ _
  have S1 := Lib.hid (dsame_any (c := c4) (c' := 1) (O4.out.keep kA).zs (zs_one w6 1 3) (by decide))
  go_wp2_with fail
  refine S1.out.mono ?_
  rintro e w7 ⟨rfl, hq⟩
  have k7 : Keep w6 w7 := by obtain ⟨q, rfl⟩ := hq; exact kA.drewN q
  have T7 := Lib.hid (T6.out.later k7)
  have kB : Keep w7 (w7.alloc (.cells #[.int .i64 0, .int .i64 1] 3)) := (Keep.refl w7).alloc _ _
  have S2 := Lib.hid (dsame_any (c := c5) (c' := 2) ((O5.out.keep k7).keep kB).zs (zs_two w7 0 1 3) (by decide))
  have KB := Lib.hid kB
  clear hq k7 kA kB
  go_wp2_with fail
  refine S2.out.mono ?_
  rintro e w8 ⟨rfl, hq⟩
  have T8 := Lib.hid (T7.out.k.trans (by obtain ⟨q, rfl⟩ := hq; exact KB.out.drewN q : Keep w7 w8))
  clear hq
  go_wp2_with fail
  go_ret
  exact ⟨rfl, T8.out⟩
end Go.Proofs.Ytjjoieahodfikaa
/- TimerPlays: both timers side by side. -/
namespace Go.Proofs.Ytjjoieahodfikaa
open Go.RowKit Go.Maps Tmr
set_option linter.unusedVariables false
set_option linter.unusedSimpArgs false
set_option maxRecDepth 100000
/-- The landed timers, the document's. -/
structure BothT (W w : World) (g1 mb1 clk : Nat) (l : List Alarm) (B g clk' : Nat) (A : Option Addr) (n c : Nat) (l' : List Alarm) : Prop where
  a : TmL w W.heap.size g1 mb1 clk l
  b : TmD w B g clk' A n c l'
  k : Keep W w
  lo : (g1 < B ∧ mb1 < B) ∧ W.heap.size ≤ B
namespace BothT
variable {W w w' : World} {g1 mb1 clk B g clk' n c : Nat} {A : Option Addr} {l l' : List Alarm}
theorem later (T : BothT W w g1 mb1 clk l B g clk' A n c l') (k : Keep w w') : BothT W w' g1 mb1 clk l B g clk' A n c l' := ⟨T.a.keep k, T.b.keep k, T.k.trans k, T.lo⟩
theorem left {clk2 : Nat} {l2 : List Alarm} (T : BothT W w g1 mb1 clk l B g clk' A n c l') (h : TmL w' W.heap.size g1 mb1 clk2 l2) (t : Turned (FpT g1 mb1) w w') : BothT W w' g1 mb1 clk2 l2 B g clk' A n c l' :=
  ⟨h, T.b.of_turn t fun b e => Or.inl (by have := T.lo; rcases e with e | e <;> omega), t.keep T.k fun i e => by have := T.a.low; rcases e with e | e <;> omega, T.lo⟩
theorem right {clk2 n2 c2 : Nat} {A2 : Option Addr} {l2 : List Alarm} (T : BothT W w g1 mb1 clk l B g clk' A n c l') (h : TmD w' B g clk2 A2 n2 c2 l2) (t : Turned (FpD g A n c) w w') : BothT W w' g1 mb1 clk l B g clk2 A2 n2 c2 l2 :=
  ⟨T.a.turned t (fun e => by have := (FpD.low T.b e).1; have := T.lo; omega) (fun e => by have := (FpD.low T.b e).1; have := T.lo; omega), h, t.keep T.k fun i e => by have := (FpD.low T.b e).1; have := T.lo; omega, T.lo⟩
theorem below (T : BothT W w g1 mb1 clk l B g clk' A n c l') : (∀ b, FpT g1 mb1 b → b < w.heap.size) ∧ ∀ b, FpD g A n c b → b < w.heap.size :=
  ⟨fun b e => by have := T.a.lt; have := T.a.mlt; rcases e with e | e <;> omega, fun b e => (FpD.low T.b e).2⟩
end BothT
section
variable {W w : World} {g1 mb1 clk B g clk' n c : Nat} {A : Option Addr} {l l' : List Alarm}
theorem both_set_l (T : BothT W w g1 mb1 clk l B g clk' A n c l') (x : Int) (hx : x < 9223372036854775808) (hx2 : -9223372036854775808 ≤ x) (e : Nat) (hf : l.length < 100000) :
    Calls Try.prog 10 #[.pointer (some ⟨g1, 0, none⟩), .int .i64 x, .int .u64 (e : Int)] w fun r w' => r = .returned (.int .i64 (setE l x e)) ∧ BothT W w' g1 mb1 clk (setR clk l x e) B g clk' A n c l' ∧ Turned (FpT g1 mb1) w w' :=
  (tset_any T.a x hx hx2 e hf).mono fun r w' ⟨e, h, t⟩ => ⟨e, T.left h t, t⟩
theorem both_stop_l (T : BothT W w g1 mb1 clk l B g clk' A n c l') (x : Int) (hx : x < 9223372036854775808) (hx2 : -9223372036854775808 ≤ x) :
    Calls Try.prog 12 #[.pointer (some ⟨g1, 0, none⟩), .int .i64 x] w fun r w' => r = .returned (.int .i64 (isE l x)) ∧ BothT W w' g1 mb1 clk (stopR l x) B g clk' A n c l' ∧ Turned (FpT g1 mb1) w w' :=
  (tstop_any T.a x hx hx2).mono fun r w' ⟨e, h, t⟩ => ⟨e, T.left h t, t⟩
theorem both_again_l (T : BothT W w g1 mb1 clk l B g clk' A n c l') (x : Int) (hx : x < 9223372036854775808) (hx2 : -9223372036854775808 ≤ x) :
    Calls Try.prog 14 #[.pointer (some ⟨g1, 0, none⟩), .int .i64 x] w fun r w' => r = .returned (.int .i64 (isE l x)) ∧ BothT W w' g1 mb1 clk (againR clk l x) B g clk' A n c l' ∧ Turned (FpT g1 mb1) w w' :=
  (tagain_any T.a x hx hx2).mono fun r w' ⟨e, h, t⟩ => ⟨e, T.left h t, t⟩
theorem both_tick_l (T : BothT W w g1 mb1 clk l B g clk' A n c l') (q : Nat) (hq : q < 18446744073709551616) :
    Calls Try.prog 16 #[.pointer (some ⟨g1, 0, none⟩), .int .u64 (q : Int)] w fun r w' => ∃ Ax m cx, r = .returned (.tuple #[.slice Ax m cx, .int .i64 (tickE clk q)]) ∧ OwnZ w' w.heap.size Ax m cx (tickZ clk l q) ∧ BothT W w' g1 mb1 (tickC clk q) (tickR clk l q) B g clk' A n c l' ∧ Turned (FpT g1 mb1) w w' :=
  (ttick_any T.a q hq T.a.few).mono fun r w' ⟨Ax, m, cx, e, o, h, t⟩ => ⟨Ax, m, cx, e, o, T.left h t, t⟩
theorem both_set_d (T : BothT W w g1 mb1 clk l B g clk' A n c l') (x : Int) (hx : x < 9223372036854775808) (e : Nat) (hf : n < 100000) :
    Calls Try.prog 11 #[.pointer (some ⟨g, 0, none⟩), .int .i64 x, .int .u64 (e : Int)] w fun r w' => ∃ A' n' c', r = .returned (.int .i64 (setE l' x e)) ∧ BothT W w' g1 mb1 clk l B g clk' A' n' c' (setR clk' l' x e) ∧ Turned (FpD g A n c) w w' ∧ n' ≤ n + 1 :=
  (dset_any T.b x hx e hf).mono fun r w' ⟨A', n', c', e, h, t, hn⟩ => ⟨A', n', c', e, T.right h t, t, hn⟩
theorem both_stop_d (T : BothT W w g1 mb1 clk l B g clk' A n c l') (x : Int) :
    Calls Try.prog 13 #[.pointer (some ⟨g, 0, none⟩), .int .i64 x] w fun r w' => ∃ A' n' c', r = .returned (.int .i64 (isE l' x)) ∧ BothT W w' g1 mb1 clk l B g clk' A' n' c' (stopR l' x) ∧ Turned (FpD g A n c) w w' ∧ n' ≤ n + 1 :=
  (dstop_any T.b x).mono fun r w' ⟨A', n', c', e, h, t, hn⟩ => ⟨A', n', c', e, T.right h t, t, hn⟩
theorem both_again_d (T : BothT W w g1 mb1 clk l B g clk' A n c l') (x : Int) :
    Calls Try.prog 15 #[.pointer (some ⟨g, 0, none⟩), .int .i64 x] w fun r w' => r = .returned (.int .i64 (isE l' x)) ∧ BothT W w' g1 mb1 clk l B g clk' A n c (againR clk' l' x) ∧ Turned (FpD g A n c) w w' :=
  (dagain_any T.b x).mono fun r w' ⟨e, h, t⟩ => ⟨e, T.right h t, t⟩
theorem both_tick_d (T : BothT W w g1 mb1 clk l B g clk' A n c l') (q : Nat) (hq : q < 18446744073709551616) :
    Calls Try.prog 17 #[.pointer (some ⟨g, 0, none⟩), .int .u64 (q : Int)] w fun r w' => ∃ Ay m cy, r = .returned (.tuple #[.slice Ay m cy, .int .i64 (tickE clk' q)]) ∧ OwnZ w' w.heap.size Ay m cy (tickZ clk' l' q) ∧ BothT W w' g1 mb1 clk l B g (tickC clk' q) A n c (tickR clk' l' q) ∧ Turned (FpD g A n c) w w' :=
  (dtick_any T.b q hq).mono fun r w' ⟨Ay, m, cy, e, o, h, t⟩ => ⟨Ay, m, cy, e, o, T.right h t, t⟩
end
end Go.Proofs.Ytjjoieahodfikaa
