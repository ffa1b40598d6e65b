/- Contracts of the document's own queue. -/
import Derived.Test.YthgplballiibnaaOwn
import Derived.Test.YthgplballiibnaaRowsApp
namespace Go.Proofs.Ythgplballiibnaa
open Go.RowKit
set_option linter.unusedVariables false
theorem infoRow : (Try.prog.info? 31).map (fun i => (i.zero, i.size, i.bytes)) = some (some (.slice none 0 0), 1, 24) := by kernel_rfl
/-- The document's queue at block g: its places, its frames; what it holds lies in blocks of R. -/
structure RefQ (w : World) (R : Nat → Prop) (g pl : Nat) (L : List (List Nat)) : Prop where
  at_ : R g
  lt : ∀ b, R b → b < w.heap.size
  rows : ∃ A n c rs, w.heap[g]? = some (.cells #[.int .i64 (pl : Int), .slice A n c] 42 (0, 0)) ∧ rowsXs rs = L ∧ n ≤ c ∧ RowsIn w (fun b => R b ∧ b ≠ g) A n rs
  short : L.length ≤ pl ∧ 1 ≤ pl ∧ pl ≤ 64
theorem RefQ.turned {w w' : World} {R G : Nat → Prop} {g pl : Nat} {L : List (List Nat)} (h : RefQ w R g pl L) (k : Turned G w w') (hd : ∀ b, R b → ¬ G b) : RefQ w' R g pl L := by
  obtain ⟨A, n, c, rs, h1, h2, h3, h4⟩ := h.rows
  exact ⟨h.at_, fun b hb => Nat.lt_of_lt_of_le (h.lt b hb) k.size, ⟨A, n, c, rs, (k.block g (h.lt g h.at_) (hd g h.at_)).trans h1, h2, h3, h4.turned k fun b hb => hd b hb.1⟩, h.short⟩
theorem RefQ.keep {w w' : World} {R : Nat → Prop} {g pl : Nat} {L : List (List Nat)} (h : RefQ w R g pl L) (k : Keep w w') : RefQ w' R g pl L := h.turned (Turned.of_keep (F := fun _ => False) k) fun _ _ e => e
theorem rqnew_out (pl : Int) (h : pl < 1 ∨ 64 < pl) (w : World) :
    Calls Try.prog 9 #[.int .i64 pl] w fun e w' => e = .returned (.tuple #[.pointer none, .int .i64 1]) ∧ w = w' := by
  by_cases h1 : pl < 1
  · have b1 : decide (pl < 1) = true := decide_eq_true h1
    clear h
    go_enter Try.func9, Try.ntmps9
    go_wp2_with fail
    go_ret2
    exact ⟨rfl, rfl⟩
  · have h2 : 64 < pl := by omega
    have b1 : decide (pl < 1) = false := decide_eq_false h1
    clear h
    go_enter Try.func9, Try.ntmps9
    go_wp2_with fail
    go_ret2
    exact ⟨rfl, rfl⟩
theorem rqnew_in (pl : Nat) (h1 : 1 ≤ pl) (h2 : pl ≤ 64) (w : World) :
    Calls Try.prog 9 #[.int .i64 (pl : Int)] w fun e w' => ∃ g, e = .returned (.tuple #[.pointer (some ⟨g, 0, none⟩), .int .i64 0]) ∧ ∃ R, RefQ w' R g pl [] ∧ (∀ b, R b → w.heap.size ≤ b) ∧ Keep w w' := by
  have b1 : decide ((pl : Int) < 1) = false := decide_eq_false (by omega)
  have b2 : ¬ (64 : Int) < (pl : Int) := by omega
  go_enter Try.func9, Try.ntmps9
  go_wp2_with fail
  go_ret2
  refine ⟨w.heap.size, rfl, fun b => b = w.heap.size, ⟨rfl, fun b e => ?_, ⟨none, 0, 0, [], heap_alloc_new _ _, rfl, Nat.le_refl _, RowsIn.nothing _ _ _⟩, ⟨Nat.zero_le _, h1, h2⟩⟩, fun b e => ?_, (Keep.refl w).alloc _ _⟩
  · subst e; simp
  · subst e; exact Nat.le_refl _
/-- What a Push tells and leaves. -/
def pushErr (pl : Nat) (L : List (List Nat)) (xs : List Nat) : Int := if 70000 < xs.length then 3 else if pl ≤ L.length then 7 else 0
def pushL (pl : Nat) (L : List (List Nat)) (xs : List Nat) : List (List Nat) := if pushErr pl L xs = 0 then L ++ [xs] else L
theorem cellsTwo {w : World} {g : Nat} {u v : Value} {t : TypeId} (h : w.heap[g]? = some (.cells #[u, v] t (0, 0))) : w.cell? ⟨g, 0, none⟩ = some u ∧ w.cell? ⟨g, 1, none⟩ = some v ∧ w.frozen? ⟨g, 1, none⟩ = false ∧ w.frozen? ⟨g, 0, none⟩ = false := by
  simp [World.cell?, World.frozen?, h]
theorem set_one {w : World} {g : Nat} {u v x : Value} {t : TypeId} (h : w.heap[g]? = some (.cells #[u, v] t (0, 0))) : (w.setCell ⟨g, 1, none⟩ x).heap[g]? = some (.cells #[u, x] t (0, 0)) := by
  simp [World.setCell, Array.getElem?_modify, h]
/-- The queue's rows, and one row more, in rows of one's own. -/
theorem rqpush_in (B n c pl g : Nat) (A : Option Addr) (R : Nat → Prop) (xs : List Nat) (L : List (List Nat)) (w : World) (hq : RefQ w R g pl L) (h : Bytes w B A n xs) (hB : B ≤ w.heap.size) (hn : n ≤ 70000) (hL : L.length < pl) :
    Calls Try.prog 12 #[.pointer (some ⟨g, 0, none⟩), .slice A n c] w fun e w' => e = .returned (.int .i64 0) ∧ ∃ R', RefQ w' R' g pl (L ++ [xs]) ∧ (∀ b, R' b → R b ∨ w.heap.size ≤ b) ∧ Turned (fun b => b = g) w w' := by
  obtain ⟨Aq, mq, cq, rs, hb, hxs, hcap, hrows⟩ := hq.rows
  obtain rfl : mq = L.length := by rw [← hxs, ← hrows.1, rowsXs, List.length_map]
  obtain ⟨c0, c1, c2, c3⟩ := cellsTwo hb
  have b0 : ¬ (70000 : Int) < (n : Int) := by omega
  have b1 : decide (pl ≤ L.length) = false := decide_eq_false (by omega)
  have hpl := hq.short
  have HQ := Lib.hid hq
  have HB := Lib.hid h
  have HR := Lib.hid hrows
  have HX := Lib.hid hxs
  have HH := Lib.hid hb
  have hgl := hq.lt g hq.at_
  clear hq h hrows hxs hb hcap
  go_enter Try.func12, Try.ntmps12
  go_wp2_with fail
  go_quiet (fail)
  have k0 : Keep w (w.drewN nq) := (Keep.refl w).drewN nq
  have K0 := Lib.hid k0
  have R0 := Lib.hid (HR.out.turned (Turned.of_keep (F := fun _ => False) k0) fun _ _ e => e)
  have d0 : (w.drewN nq).cell? ⟨g, 0, none⟩ = some (.int .i64 (pl : Int)) := c0
  have d1 : (w.drewN nq).cell? ⟨g, 1, none⟩ = some (.slice Aq L.length cq) := c1
  have h0 : w.heap.size ≤ (w.drewN nq).heap.size := k0.size
  generalize w.drewN nq = w0 at *
  clear k0 c0 c1
  go_wp2_with (at_builtin; refine wpList_append_rows rfl _ _ 40 rfl Try.underlying40 infoRow rfl (OwnRows.none_ w0 w0.heap.size 31) rfl (news := rs) R0.out.1 (fun hp => by obtain ⟨b, off, e, _, hc⟩ := R0.out.2.2 hp; exact ⟨b, off, e, hc⟩) (by omega) (Nat.le_refl _) ?_)
  intro A2 q2 w2 h2 hgr _
  have h2 : OwnRows w2 w0.heap.size 31 A2 L.length q2 rs := by simpa using h2
  have k2 : Keep w0 w2 := (Keep.refl w0).grown hgr (fun k hk => by cases hk)
  have H2 := Lib.hid h2
  have K2 := Lib.hid (K0.out.trans k2)
  have hz2 : w0.heap.size ≤ w2.heap.size := k2.size
  have R2 := Lib.hid (R0.out.turned (Turned.of_keep (F := fun _ => False) k2) fun _ _ e => e)
  clear h2 hgr k2 d0 d1
  go_wp2_with fail
  refine (rown_any B n c A xs w2 (HB.out.keep hB K2.out) (by omega)).mono ?_
  rintro e w3 ⟨A3, n3, q3, rfl, o3, k3⟩
  obtain rfl : n = n3 := (o3.length.symm.trans HB.out.length).symm
  have O3 := Lib.hid o3
  have K3 := Lib.hid k3
  have K30 := Lib.hid (K2.out.trans k3)
  have H3 := Lib.hid ((H2.out.keep k3).alloc (.cells #[.slice A3 n q3] 31))
  have hz : w0.heap.size ≤ w3.heap.size := Nat.le_trans hz2 k3.size
  clear o3 k3
  go_wp2_with (at_builtin; refine wpList_append_row rfl _ _ 40 rfl ⟨A3, n, q3, xs⟩ Try.underlying40 infoRow rfl H3.out rfl (by rw [World.cell?_alloc_new]; rfl) (by omega) (by simp; omega) ?_)
  intro A4 q4 w4 h4 hgr4 h5
  have ka : Keep w3 (w3.alloc (.cells #[.slice A3 n q3] 31)) := (Keep.refl w3).alloc _ _
  have hbA : ∀ b, (Value.slice A2 L.length q2).ownBlock = some b → w0.heap.size ≤ b := fun b hb => H2.out.rowLe b hb
  have hg4 : w4.heap[g]? = some (.cells #[.int .i64 (pl : Int), .slice Aq L.length cq] 42 (0, 0)) := by
    rw [hgr4.block g (by have := ka.size; omega) (fun e => by have := hbA g e.symm; omega), (K30.out.trans ka).block g hgl]; exact HH.out
  obtain ⟨c0, c1, c2, c3⟩ := cellsTwo hg4
  have HG := Lib.hid hg4
  have HA := Lib.hid hbA
  have HKA := Lib.hid ka
  have H4 := Lib.hid h4
  have HGR := Lib.hid hgr4
  have H5 := Lib.hid h5
  clear hg4 hbA ka h4 hgr4 h5
  go_wp2_with fail
  go_ret
  have k4 : Keep w w4 := (K30.out.trans HKA.out).grown HGR.out fun k hk => by have := HA.out k hk; have := K0.out.size; omega
  have hnew : ∀ b, (Value.slice A4 (L.length + 1) q4).ownBlock = some b → w.heap.size ≤ b := fun b hb => by have := H4.out.rowLe b hb; have := K0.out.size; omega
  have hlt : ∀ b, (Value.slice A4 (L.length + 1) q4).ownBlock = some b → b < w4.heap.size := fun b hb => (H4.out.lt b hb).2
  have n3 : ∀ b, (Value.slice A3 n q3).ownBlock = some b → w.heap.size ≤ b ∧ b < w4.heap.size := fun b hb => by
    have z1 := (O3.out.1.lt b hb)
    have z2 := HGR.out.size
    have z3 := HKA.out.size
    have z4 := K2.out.size
    omega
  refine ⟨rfl, fun b => R b ∨ (Value.slice A4 (L.length + 1) q4).ownBlock = some b ∨ (Value.slice A3 n q3).ownBlock = some b, ⟨Or.inl HQ.out.at_, ?_, ⟨A4, L.length + 1, q4, rs ++ [⟨A3, n, q3, xs⟩], set_one HG.out, ?_, ?_, ?_⟩, ?_⟩, ?_, ?_⟩
  · rintro b (hb | hb | hb)
    · have := HQ.out.lt b hb
      have := k4.size
      simp [World.setCell]; omega
    · have := hlt b hb
      simp [World.setCell]; omega
    · have := n3 b hb
      simp [World.setCell]; omega
  · rw [rowsXs, List.map_append, ← rowsXs, HX.out]; rfl
  · rcases H4.out.2 with ⟨hv, h0⟩ | ⟨_, _, _, hv, _, _, hle, _⟩
    · omega
    · injection hv with _ _ e; omega
  · have kR : Turned (fun b => (Value.slice A2 L.length q2).ownBlock = some b ∨ b = g) w2 (w4.setCell ⟨g, 1, none⟩ (.slice A4 (L.length + 1) q4)) :=
      (((Turned.of_keep K3.out).then_keep HKA.out).trans (Turned.of_grown (F := fun b => (Value.slice A2 L.length q2).ownBlock = some b) HGR.out fun i e => e) (fun i e => Or.inl (Or.inl e))).trans (Turned.set (F := fun b => b = g) _ _ _ rfl) fun i e => Or.inl (Or.inr e)
    have kO : Turned (fun b => (Value.slice A2 L.length q2).ownBlock = some b ∨ b = g) w3 (w4.setCell ⟨g, 1, none⟩ (.slice A4 (L.length + 1) q4)) :=
      ((Turned.of_keep HKA.out).trans (Turned.of_grown (F := fun b => (Value.slice A2 L.length q2).ownBlock = some b) HGR.out fun i e => e) (fun i e => Or.inl (Or.inl e))).trans (Turned.set (F := fun b => b = g) _ _ _ rfl) fun i e => Or.inl (Or.inr e)
    have o4 : OwnRows (w4.setCell ⟨g, 1, none⟩ (.slice A4 (L.length + 1) q4)) w0.heap.size 31 A4 (L.length + 1) q4 (rs ++ [⟨A3, n, q3, xs⟩]) := H4.out.turned (Turned.set (F := fun b => b = g) _ _ _ rfl) fun b hb e => by
      have := H4.out.rowLe b hb; omega
    refine RowsIn.of_own o4 (fun r hr => ?_) (fun b hb => ⟨Or.inr (Or.inl hb), by have := H4.out.rowLe b hb; omega⟩)
    rw [List.mem_append, List.mem_singleton] at hr
    rcases hr with hr | rfl
    · exact ((R2.out.2.1 r hr).turned kR fun b hb e => by
        rcases e with e | e
        · have := HA.out b e; have := HQ.out.lt b hb.1; omega
        · exact hb.2 e).mono fun b hb => ⟨Or.inl hb.1, hb.2⟩
    · exact (O3.out.lies.turned kO fun b hb e => by
        have z := O3.out.1.lt b hb
        rcases e with e | e
        · have := (H2.out.lt b e).2; omega
        · omega).mono fun b hb => ⟨Or.inr (Or.inr hb), by have z := O3.out.1.lt b hb; omega⟩
  · exact ⟨by simp; omega, hpl.2⟩
  · rintro b (hb | hb | hb)
    · exact Or.inl hb
    · exact Or.inr (hnew b hb)
    · exact Or.inr (n3 b hb).1
  · exact (Turned.of_keep k4).trans (Turned.set (F := fun b => b = g) _ _ _ rfl) fun i e => Or.inl e
theorem rqpush_any (B n c pl g : Nat) (A : Option Addr) (R : Nat → Prop) (xs : List Nat) (L : List (List Nat)) (w : World) (hq : RefQ w R g pl L) (h : Bytes w B A n xs) (hB : B ≤ w.heap.size) :
    Calls Try.prog 12 #[.pointer (some ⟨g, 0, none⟩), .slice A n c] w fun e w' => e = .returned (.int .i64 (pushErr pl L xs)) ∧ ∃ R', RefQ w' R' g pl (pushL pl L xs) ∧ (∀ b, R' b → R b ∨ w.heap.size ≤ b) ∧ Turned (fun b => b = g) w w' := by
  have hl := h.length
  by_cases h1 : 70000 < n
  · have E : pushErr pl L xs = 3 := by rw [pushErr, if_pos (by omega)]
    rw [pushL, E, if_neg (by decide)]
    have b0 : (70000 : Int) < (n : Int) := by omega
    have HQ := Lib.hid hq
    clear hq h hl
    go_enter Try.func12, Try.ntmps12
    go_wp2_with fail
    go_ret
    exact ⟨rfl, R, HQ.out, fun b hb => Or.inl hb, Turned.refl _ _⟩
  · by_cases h2 : pl ≤ L.length
    · have E : pushErr pl L xs = 7 := by rw [pushErr, if_neg (by omega), if_pos h2]
      rw [pushL, E, if_neg (by decide)]
      obtain ⟨Aq, mq, cq, rs, hb, hxs, hcap, hrows⟩ := hq.rows
      obtain rfl : mq = L.length := by rw [← hxs, ← hrows.1, rowsXs, List.length_map]
      obtain ⟨c0, c1, c2, c3⟩ := cellsTwo hb
      have b0 : ¬ (70000 : Int) < (n : Int) := by omega
      have b1 : decide (pl ≤ L.length) = true := decide_eq_true h2
      have HQ := Lib.hid hq
      clear hq h hl hb hrows hxs hcap h2
      go_enter Try.func12, Try.ntmps12
      go_wp2_with fail
      go_quiet (fail)
      go_wp2_with fail
      go_ret
      have k0 : Keep w (w.drewN nq) := (Keep.refl w).drewN nq
      exact ⟨rfl, R, HQ.out.keep k0, fun b hb => Or.inl hb, Turned.of_keep k0⟩
    · have E : pushErr pl L xs = 0 := by rw [pushErr, if_neg (by omega), if_neg h2]
      rw [pushL, E, if_pos rfl]
      exact rqpush_in B n c pl g A R xs L w hq h hB (by omega) (by omega)
theorem rqpop_any (pl g : Nat) (R : Nat → Prop) (L : List (List Nat)) (w : World) (hq : RefQ w R g pl L) :
    Calls Try.prog 14 #[.pointer (some ⟨g, 0, none⟩)] w fun e w' => ∃ r : RowV, e = .returned (.tuple #[.slice r.A r.n r.c, .bool (!L.isEmpty)]) ∧ r.xs = L.headD [] ∧ LiesIn w' R r ∧ RefQ w' R g pl L.tail ∧ Turned (fun b => b = g) w w' := by
  obtain ⟨Aq, mq, cq, rs, hb, hxs, hcap, hrows⟩ := hq.rows
  obtain rfl : mq = L.length := by rw [← hxs, ← hrows.1, rowsXs, List.length_map]
  obtain ⟨c0, c1, c2, c3⟩ := cellsTwo hb
  have HQ := Lib.hid hq
  have HR := Lib.hid hrows
  have HX := Lib.hid hxs
  have HH := Lib.hid hb
  have HC := Lib.hid hcap
  cases L with
  | nil =>
    clear hq hb hrows hxs hcap
    go_enter Try.func14, Try.ntmps14
    go_wp2_with fail
    go_ret2
    exact ⟨⟨none, 0, 0, []⟩, rfl, rfl, LiesIn.nothing _ _, HQ.out, Turned.refl _ _⟩
  | cons x L =>
    obtain ⟨b, off, r, rfl, hRb, hr0, hcell, hlies⟩ := hrows.at_ (k := 0) (by simp)
    have hrx : r.xs = x := by
      have := congrArg (fun l => l[0]?) hxs
      simp [rowsXs, hr0] at this
      exact this
    have HL := Lib.hid hlies
    have HRX := Lib.hid hrx
    have HB := Lib.hid hRb
    rw [Nat.add_zero] at hcell
    have b1 : ((L.length + 1 : Nat) : Int) ≠ 0 := by omega
    obtain ⟨k, hk⟩ : ∃ k, (x :: L).length = k := ⟨_, rfl⟩
    have HK : Hid (k = L.length + 1) := hk.symm
    rw [hk] at c1
    rw [hk] at hcap
    have b2 : decide ((k : Int) = 0) = false := decide_eq_false (by have := HK.out; omega)
    have b3 : (0 : Int) < (k : Int) := by have := HK.out; omega
    have b4 : 1 ≤ k := by omega
    have hdrop : ∀ w, (Instr.slice 40 (.slice (some ⟨b, off, none⟩) k cq) (some (.int .i64 1)) none none).run Try.prog w = .ok (.slice (dropA (some ⟨b, off, none⟩) cq 1) (k - 1) (cq - 1)) w := fun w => run_drop (t := 40) (by kernel_rfl) infoRow k cq 1 _ b4 w
    clear hq hb hrows hxs hlies hrx hRb hr0 hk b1
    go_enter Try.func14, Try.ntmps14
    go_wp2_with fail
    go_ret2
    have kT : Turned (fun b => b = g) w (w.setCell ⟨g, 1, none⟩ (.slice (dropA (some ⟨b, off, none⟩) cq 1) (k - 1) (cq - 1))) := Turned.set (F := fun b => b = g) _ _ _ rfl
    have hl : k - 1 = L.length := by have := HK.out; omega
    have hrs : rowsXs rs.tail = L := by rw [rowsXs, List.map_tail, ← rowsXs, HX.out]; rfl
    have hR2 : RowsIn w (fun b => R b ∧ b ≠ g) (dropA (some ⟨b, off, none⟩) cq 1) (k - 1) rs.tail := by
      have e := (HR.out.drop (s := 1) HC.out)
      rw [List.drop_one] at e
      have e2 : (x :: L).length - 1 = k - 1 := by have := HK.out; simp; omega
      rw [e2] at e; exact e
    refine ⟨r, rfl, HRX.out, (HL.out.turned kT fun b hb => hb.2).mono fun b hb => hb.1, ⟨HQ.out.at_, fun b hb => by simpa [World.setCell] using HQ.out.lt b hb, ⟨_, k - 1, cq - 1, rs.tail, set_one HH.out, hrs, by omega, hR2.turned kT fun b hb => hb.2⟩, by have := HQ.out.short; simp at this ⊢; omega⟩, kT⟩
theorem LiesIn.str {w : World} {F : Nat → Prop} {r : RowV} (h : LiesIn w F r) (hF : ∀ b, F b → b < w.heap.size) (k : Nat) : (convert 31 9 (.slice r.A r.n r.c)).run Try.prog (w.drewN k) = .ok (.string (strN r.xs)) (w.drewN k) :=
  run_str (w := w.drewN k) (h.bytes hF) Try.underlying31 Try.underlying5 Try.underlying9 r.c
theorem rowsXs_take {rs : List RowV} {k : Nat} {r : RowV} (h : rs[k]? = some r) : rowsXs (rs.take (k + 1)) = rowsXs (rs.take k) ++ [r.xs] := by
  rw [List.take_add_one, h]; simp [rowsXs]
theorem rowsXs_ne {rs rs' : List RowV} {k : Nat} {r r' : RowV} (h : rs[k]? = some r) (h' : rs'[k]? = some r') (hne : r.xs ≠ r'.xs) : rowsXs rs ≠ rowsXs rs' := fun e => by
  have := congrArg (fun l => l[k]?) e
  simp [rowsXs, h, h'] at this
  exact hne this
set_option maxRecDepth 100000 in
set_option maxHeartbeats 1000000 in
theorem rsame_any (n m ca cb : Nat) (A A' : Option Addr) (F F' : Nat → Prop) (rs rs' : List RowV) (w : World) (h : RowsIn w F A n rs) (h' : RowsIn w F' A' m rs') (hF : ∀ b, F b → b < w.heap.size) (hF' : ∀ b, F' b → b < w.heap.size) (hn : n ≤ 140737488355328) :
    Calls Try.prog 21 #[.slice A n ca, .slice A' m cb] w fun e w' => e = .returned (.bool (decide (rowsXs rs = rowsXs rs'))) ∧ ∃ k, w' = w.drewN k := by
  have H := Lib.hid h
  have H' := Lib.hid h'
  by_cases hnm : n = m
  · subst hnm
    clear h h'
    go_enter Try.func21, Try.ntmps21
    go_wp2_with fail
    go_loopw [5] (fun i wr => ∃ (j k : Nat), j ≤ n ∧ i = .int .i64 j ∧ wr = w.drewN k ∧ rowsXs (rs.take j) = rowsXs (rs'.take j)) (fun i _ => n - (intOf i).toNat)
    case atStart => exact ⟨0, 0, by omega, rfl, rfl, rfl⟩
    case round =>
      obtain ⟨j, k, hj, rfl, rfl, he⟩ := hrel
      have HE := Lib.hid he
      clear he
      by_cases hlt : j < n
      · obtain ⟨b, off, r, rfl, hb, hr, hc, hl⟩ := H.out.at_ hlt
        obtain ⟨b', off', r', rfl, hb', hr', hc', hl'⟩ := H'.out.at_ hlt
        have HR := Lib.hid hr
        have HR' := Lib.hid hr'
        have t1 := hl.str hF
        have t2 := hl'.str hF'
        have d1 : ∀ q, (w.drewN q).cell? ⟨b, off + j, none⟩ = some (.slice r.A r.n r.c) := fun _ => hc
        have d2 : ∀ q, (w.drewN q).cell? ⟨b', off' + j, none⟩ = some (.slice r'.A r'.n r'.c) := fun _ => hc'
        have e1 : (0 : Int) ≤ (j : Int) := Int.natCast_nonneg _
        have e2 : (j : Int) < (n : Int) := by omega
        have hall := hl.2.1
        have hall' := hl'.2.1
        by_cases hx : r.xs = r'.xs
        · have q0 := strN_eq hx
          have HX := Lib.hid hx
          clear hr hr' hl hl' hc hc' hall hall' hx
          go_wp2_with fail
          go_quiet (fail)
          go_wp2_with fail
          go_roundw
          case rel => exact ⟨j + 1, k + nq, by omega, by go_num, rfl, by rw [rowsXs_take HR.out, rowsXs_take HR'.out, HE.out, HX.out]⟩
          case measure => simp [intOf]; omega
        · have q0 := strN_ne hall hall' hx
          have HC : Hid (decide (rowsXs rs = rowsXs rs') = false) := by show _ = _; exact decide_eq_false (rowsXs_ne hr hr' hx)
          clear hr hr' hl hl' hc hc' hall hall' hx
          go_wp2_with fail
          go_quiet (fail)
          go_wp2_with fail
          go_ret
          exact ⟨by rw [HC.out]; rfl, _, World.drewN_drewN ..⟩
      · obtain rfl : j = n := by omega
        have HC : Hid (decide (rowsXs rs = rowsXs rs') = true) := by
          show _ = _
          have e := HE.out
          rw [List.take_of_length_le (by rw [H.out.1]; exact Nat.le_refl _), List.take_of_length_le (by rw [H'.out.1]; exact Nat.le_refl _)] at e
          exact decide_eq_true e
        go_wp2_with fail
        go_ret
        exact ⟨by rw [HC.out]; rfl, _, rfl⟩
  · have HC : Hid (decide (rowsXs rs = rowsXs rs') = false) := by
      show _ = _
      exact decide_eq_false fun e => hnm (by rw [← h.1, ← h'.1]; have := congrArg List.length e; simpa [rowsXs] using this)
    have b1 : ((n : Int) != (m : Int)) = true := by rw [bne_iff_ne]; omega
    clear h h' hnm
    go_enter Try.func21, Try.ntmps21
    go_wp2_with fail
    go_ret
    exact ⟨by rw [HC.out]; rfl, 0, rfl⟩
end Go.Proofs.Ythgplballiibnaa
