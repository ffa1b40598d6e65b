/- Symbols, and rows that go with them, laid out of an argument. -/
import Derived.Test.YticllkklbogcnaaBref1
import Derived.Test.YticllkklbogcnaaBas
import Derived.Test.YticllkklbogcnaaFill
import Derived.Test.YticllkklbogcnaaMgen
import Derived.Test.YticllkklbogcnaaRowsMk
import Derived.BigQuiet
namespace Go.Proofs.Yticllkklbogcnaa
open Go.RowKit
set_option linter.unusedVariables false
set_option linter.unusedSimpArgs false
/-- Rows being laid: their own block new, what they hold apart from it. -/
def LaySt (W w : World) (A : Option Addr) (n c : Nat) (ps : List PairV) : Prop :=
  OwnSt w W.heap.size A n c ps ∧ (∀ p ∈ ps, LiesIn w (fun b => W.heap.size ≤ b ∧ b < w.heap.size ∧ ¬ (Value.slice A n c).ownBlock = some b) p.a ∧ LiesIn w (fun b => W.heap.size ≤ b ∧ b < w.heap.size ∧ ¬ (Value.slice A n c).ownBlock = some b) p.b) ∧ Keep W w
theorem st_apart {w : World} {base base' n n' c c' : Nat} {A A' : Option Addr} {xs : List Nat} {ps : List PairV} (h : Own w base 5 A n c xs) (h' : OwnSt w base' A' n' c' ps) : ∀ b, (Value.slice A n c).ownBlock = some b → ¬ (Value.slice A' n' c').ownBlock = some b := fun b hb hb' => by
  rcases h.1.2 with ⟨hv, _⟩ | ⟨g, cap, cur, hv, _, hh, _⟩
  · rw [hv] at hb; cases hb
  · rcases h'.2 with ⟨hv', _⟩ | ⟨g', cap', cur', hv', _, hh', _⟩
    · rw [hv'] at hb'; cases hb'
    · rw [hv] at hb
      rw [hv'] at hb'
      have e1 : g = b := by simpa [Value.ownBlock] using hb
      have e2 : g' = b := by simpa [Value.ownBlock] using hb'
      subst e1; subst e2
      rw [hh] at hh'
      simp at hh'
namespace LaySt
variable {W w w' : World} {A : Option Addr} {n c : Nat} {ps : List PairV}
theorem nothing (W : World) : LaySt W W none 0 0 [] := ⟨OwnSt.none_ _ _, fun p hp => by simp at hp, Keep.refl W⟩
theorem later (h : LaySt W w A n c ps) (k : Keep w w') : LaySt W w' A n c ps :=
  ⟨h.1.keep k, fun p hp => ⟨((h.2.1 p hp).1.turned (Turned.of_keep (F := fun _ => False) k) fun _ _ e => e).mono fun b hb => ⟨hb.1, Nat.lt_of_lt_of_le hb.2.1 k.size, hb.2.2⟩, ((h.2.1 p hp).2.turned (Turned.of_keep (F := fun _ => False) k) fun _ _ e => e).mono fun b hb => ⟨hb.1, Nat.lt_of_lt_of_le hb.2.1 k.size, hb.2.2⟩⟩, h.2.2.trans k⟩
theorem apart (h : LaySt W w A n c ps) {r : RowV} (o : Own w W.heap.size 5 r.A r.n r.c r.xs) : LiesIn w (fun b => W.heap.size ≤ b ∧ b < w.heap.size ∧ ¬ (Value.slice A n c).ownBlock = some b) r :=
  o.lies.mono fun b hb => ⟨(o.1.lt b hb).1, (o.1.lt b hb).2, st_apart o h.1 b hb⟩
theorem more {A2 : Option Addr} {c2 : Nat} {p : PairV} {o : Obj} (h : LaySt W w A n c ps) (ha : LiesIn w (fun b => W.heap.size ≤ b ∧ b < w.heap.size ∧ ¬ (Value.slice A n c).ownBlock = some b) p.a) (hb : LiesIn w (fun b => W.heap.size ≤ b ∧ b < w.heap.size ∧ ¬ (Value.slice A n c).ownBlock = some b) p.b) (o2 : OwnSt w' W.heap.size A2 (n + 1) c2 (ps ++ [p])) (k : (w.alloc o).grownBy w' (Value.slice A n c).ownBlock)
    (hk : (Value.slice A2 (n + 1) c2).ownBlock = (Value.slice A n c).ownBlock ∨ (Value.slice A2 (n + 1) c2).ownBlock = some (w.alloc o).heap.size) : LaySt W w' A2 (n + 1) c2 (ps ++ [p]) := by
  have ka : Keep w (w.alloc o) := Below.alloc (Keep.refl w) (Nat.le_refl _) o
  have kT : Turned (fun b => (Value.slice A n c).ownBlock = some b) w w' := (Turned.of_keep ka).trans (Turned.of_grown (F := fun b => (Value.slice A n c).ownBlock = some b) k fun i e => e) fun i e => Or.inl e
  have key : ∀ r, LiesIn w (fun b => W.heap.size ≤ b ∧ b < w.heap.size ∧ ¬ (Value.slice A n c).ownBlock = some b) r → LiesIn w' (fun b => W.heap.size ≤ b ∧ b < w'.heap.size ∧ ¬ (Value.slice A2 (n + 1) c2).ownBlock = some b) r := fun r hr =>
    (hr.turned kT fun b hb e => hb.2.2 e).mono fun b hb => ⟨hb.1, Nat.lt_of_lt_of_le hb.2.1 kT.size, fun e => by
      rcases hk with h1 | h1
      · exact hb.2.2 (h1 ▸ e)
      · rw [h1] at e
        injection e with e
        have := ka.size
        simp at e; omega⟩
  exact ⟨o2, fun q hq => by
    rcases List.mem_append.1 hq with hq | hq
    · exact ⟨key _ (h.2.1 q hq).1, key _ (h.2.1 q hq).2⟩
    · rw [List.mem_singleton] at hq; subst hq
      exact ⟨key _ ha, key _ hb⟩, kT.keep h.2.2 fun b e => (h.1.lt b e).1⟩
theorem stIn (h : LaySt W w A n c ps) : StIn w (fun b => W.heap.size ≤ b ∧ b < w.heap.size) A n ps :=
  h.1.stIn (fun p hp => ⟨(h.2.1 p hp).1.mono fun b hb => ⟨hb.1, hb.2.1⟩, (h.2.1 p hp).2.mono fun b hb => ⟨hb.1, hb.2.1⟩⟩) fun b hb => h.1.lt b hb
end LaySt
theorem results_tmp4 {fn : Func} {t u v x : Tmp} (h : fn.results = #[.tmp t, .tmp u, .tmp v, .tmp x]) (tmps : Array Value) (P : Program) (w : World) :
    (results fn tmps).run P w = .ok (.tuple #[tmps.getD t undef, tmps.getD u undef, tmps.getD v undef, tmps.getD x undef]) w := by
  simp [results, h]
/-- The symbols, as many and as long as they should be. -/
def symM (S : List (List Nat)) (s k : Nat) : List (List Nat) := (List.range k).map fun i => fillN (S.getD i []) s
theorem symM_succ (S : List (List Nat)) (s k : Nat) : symM S s (k + 1) = symM S s k ++ [fillN (S.getD k []) s] := by simp [symM, List.range_succ]
theorem symM_sz (S : List (List Nat)) (s g : Nat) (h : ∀ x ∈ S, AllB x) : Sz g s (symM S s g) := ⟨by simp [symM], fun x hx => by
  obtain ⟨i, _, rfl⟩ := List.mem_map.1 hx
  refine ⟨fillN_len _ _, fillN_all ?_ _⟩
  cases e : S[i]? with
  | none => rw [List.getD_eq_getElem?_getD, e]; exact fun x hx => by simp at hx
  | some y => rw [List.getD_eq_getElem?_getD, e]; exact h y (List.mem_of_getElem? e)⟩
theorem fillN_nil (s : Nat) : fillN [] s = List.replicate s 0 := by simp [fillN]
/-- The rows: coefficients cut or filled, and what goes with them. -/
def rowsM (g s : Nat) (M : List (List Nat)) (C : List (List Nat)) (k : Nat) : List (List Nat × List Nat) := (C.take k).map fun c => (fillN c g, payV g s M (fillN c g))
theorem rowsM_succ {g s : Nat} {M C : List (List Nat)} {k : Nat} {c : List Nat} (h : C[k]? = some c) : rowsM g s M C (k + 1) = rowsM g s M C k ++ [(fillN c g, payV g s M (fillN c g))] := by
  rw [rowsM, List.take_add_one, h]; simp [rowsM]
theorem rowsOf_none {rs : List RowV} {j n : Nat} (h : rs.length = n) (hj : ¬ j < n) : (rowsOf rs).getD j [] = [] := by
  rw [List.getD_eq_getElem?_getD, List.getElem?_eq_none (by simp [rowsOf]; omega)]; rfl
set_option maxRecDepth 100000 in
set_option maxHeartbeats 4000000 in
theorem laid_any (G S n1 c1 n2 c2 n3 c3 : Nat) (A1 A2 A3 : Option Addr) (rs1 rs2 : List RowV) (w : World) (h1 : RowsAt w w.heap.size A1 n1 rs1) (h2 : RowsAt w w.heap.size A2 n2 rs2) (m1 : n1 ≤ 140737488351232) (m2 : n2 ≤ 140737488351232) (hG : G < 256) (hS : S < 256) (g s : Nat) (hg : 1 + G % 10 = g) (hs : 1 + S % 10 = s) (M : List (List Nat)) (hM : symM (rowsOf rs1) s g = M) :
    Calls Try.prog 28 #[.agg #[.int .u8 (G : Int), .int .u8 (S : Int), .slice A1 n1 c1, .slice A2 n2 c2, .slice A3 n3 c3]] w fun e w' => ∃ As cs rss Ar k cr ps, e = .returned (.tuple #[.int .i64 (g : Int), .int .i64 (s : Int), .slice As g cs, .slice Ar k cr]) ∧ RowsIn w' (fun b => w.heap.size ≤ b ∧ b < w'.heap.size) As g rss ∧ rowsXs rss = M ∧ StIn w' (fun b => w.heap.size ≤ b ∧ b < w'.heap.size) Ar k ps ∧ (ps.map fun p => (p.a.xs, p.b.xs)) = rowsM g s M (rowsOf rs2) 40 ∧ (∀ p ∈ ps, p.a.n = g ∧ p.b.n = s) ∧ Keep w w' ∧ k ≤ cr := by
  have H := Lib.hid (And.intro h1 h2)
  have HM := Lib.hid hM
  have hgs : 1 ≤ g ∧ g ≤ 10 ∧ 1 ≤ s ∧ s ≤ 10 := by omega
  obtain ⟨gm, hgm⟩ : ∃ gm, G % 10 = gm := ⟨_, rfl⟩
  obtain ⟨sm, hsm⟩ : ∃ sm, S % 10 = sm := ⟨_, rfl⟩
  have eg : (G : Int) % 10 = (gm : Int) := by omega
  have es : (S : Int) % 10 = (sm : Int) := by omega
  have eg2 : IntKind.i64.wrap (1 + (gm : Int)) = (g : Int) := by rw [show 1 + (gm : Int) = (g : Int) by omega]; exact IntWalk.i64_in _ (by omega)
  have es2 : IntKind.i64.wrap (1 + (sm : Int)) = (s : Int) := by rw [show 1 + (sm : Int) = (s : Int) by omega]; exact IntWalk.i64_in _ (by omega)
  have HGS := Lib.hid hgs
  have mkb := fun w => run_make_bytes (P := Try.prog) Try.underlying31 info5 s (by omega) w
  have mkg := fun w => run_make_bytes (P := Try.prog) Try.underlying31 info5 g (by omega) w
  clear h1 h2 hM hg hs hgm hsm
  go_enter Try.func28, Try.ntmps28
  go_wp2_with fail
  have hbk := heap_alloc_new w (.cells #[.int .u8 (G : Int), .int .u8 (S : Int), .slice A1 n1 c1, .slice A2 n2 c2, .slice A3 n3 c3] 60)
  have kb : Keep w (w.alloc (.cells #[.int .u8 (G : Int), .int .u8 (S : Int), .slice A1 n1 c1, .slice A2 n2 c2, .slice A3 n3 c3] 60)) := (Keep.refl w).alloc _ _
  obtain ⟨gb, hgb⟩ : ∃ gb, w.heap.size = gb := ⟨_, rfl⟩
  have hgl : gb < (w.alloc (.cells #[.int .u8 (G : Int), .int .u8 (S : Int), .slice A1 n1 c1, .slice A2 n2 c2, .slice A3 n3 c3] 60)).heap.size := by rw [← hgb]; simp
  rw [hgb] at hbk
  simp only [hgb]
  generalize w.alloc (.cells #[.int .u8 (G : Int), .int .u8 (S : Int), .slice A1 n1 c1, .slice A2 n2 c2, .slice A3 n3 c3] 60) = w0 at *
  have KB0 := Lib.hid kb
  have cb0 : w0.cell? ⟨gb, 0, none⟩ = some (.int .u8 (G : Int)) := by simp [World.cell?, hbk]
  have cb1 : w0.cell? ⟨gb, 1, none⟩ = some (.int .u8 (S : Int)) := by simp [World.cell?, hbk]
  have HBK := Lib.hid (And.intro hbk hgl)
  clear hbk kb hgl hgb
  go_quiet (fail)
  have KB : Hid (Keep w (w0.drewN nq)) := KB0.out.drewN nq
  have HBQ : Hid ((w0.drewN nq).heap[gb]? = some (.cells #[.int .u8 (G : Int), .int .u8 (S : Int), .slice A1 n1 c1, .slice A2 n2 c2, .slice A3 n3 c3] 60 (0, 0)) ∧ gb < (w0.drewN nq).heap.size) := HBK.out
  generalize w0.drewN nq = wb at *
  clear cb0 cb1 KB0 HBK
  go_wp2_with fail
  clear eg es eg2 es2
  go_loopw [4, 22] (fun m i wr => ∃ (j : Nat) (As : Option Addr) (cs : Nat) (rss : List RowV), j ≤ g ∧ i = .int .i64 j ∧ m = .slice As j cs ∧ Laying wb wr As j cs rss ∧ rowsXs rss = symM (rowsOf rs1) s j) (fun _ i _ => g - (intOf i).toNat)
  case atStart => exact ⟨0, none, 0, [], by omega, rfl, rfl, Laying.nothing wb, rfl⟩
  case round =>
    obtain ⟨j, As, cs, rss, hj, rfl, rfl, hl, hx⟩ := hrel
    have HX := Lib.hid hx
    clear hx
    by_cases hlt : j < g
    · have e1 : (0 : Int) ≤ (j : Int) := Int.natCast_nonneg _
      have e2 : (j : Int) < (g : Int) := by omega
      have hka : Keep wr (wr.alloc (.cells (madeCells #[.int .u8 0] s) 5)) := (Keep.refl wr).alloc _ _
      have hkw := hl.2.2.trans hka
      have hca : (wr.alloc (.cells (madeCells #[.int .u8 0] s) 5)).cell? ⟨gb, 2, none⟩ = some (.slice A1 n1 c1) := by
        have := (hkw.block gb HBQ.out.2).trans HBQ.out.1
        simp [World.cell?, this]
      by_cases hlt1 : j < n1
      · have e3 : (j : Int) < (n1 : Int) := by omega
        obtain ⟨b, off, r, rfl, hb, hr, hck, hby, hrn, hrc⟩ := (H.out.1.keep (Nat.le_refl _) (KB.out.trans hkw)).at_ hlt1
        have hb1 := (H.out.1.2.1 r (List.mem_of_getElem? hr)).1.keep (Nat.le_refl _) (KB.out.trans hl.2.2)
        obtain ⟨w5, vv, hcp, ho5, hk5⟩ := run_copy_fill (P := Try.prog) (t := 31) (e := 5) (c := r.c) (ty := 3) (n := s) Try.underlying31 (by kernel_rfl) hb1 (by have := KB.out.size; have := hl.2.2.size; omega) (by have := HGS.out; omega)
        rw [← rowsOf_getD hr] at ho5
        have HL5 := Lib.hid (hl.later hk5)
        have HO5 := Lib.hid (ho5.lower hl.2.2.size)
        clear hl hr hby hrn hrc ho5 hb hka hkw hb1
        go_wp2_with (at_builtin; refine wpList_append_row rfl _ _ 48 rfl ⟨some ⟨wr.heap.size, 0, none⟩, s, s, fillN ((rowsOf rs1).getD j []) s⟩ Try.underlying48 infoRow rfl (HL5.out.1.alloc _) rfl (by rw [World.cell?_alloc_at _ _ _ _ (by simp)]; rfl) (by have := HGS.out; omega) (by have := HL5.out.2.2.size; simp at this ⊢; omega) ?_)
        intro A7 c7 w7 h7 hgr7 hb7
        have HL7 := Lib.hid (HL5.out.more (row_apart HL5.out HO5.out) h7 hgr7 (by simpa using hb7))
        clear h7 hgr7 hb7
        go_wp2_with fail
        go_roundw
        case rel => exact ⟨j + 1, A7, c7, _, by omega, by go_num, rfl, HL7.out, by rw [rowsXs, List.map_append, ← rowsXs, HX.out, symM_succ]; rfl⟩
        case measure => simp [intOf]; omega
      · have e3 : ¬ (j : Int) < (n1 : Int) := by omega
        have HL5 := Lib.hid (hl.later hka)
        have HO5 : Hid (Own (wr.alloc (.cells (madeCells #[.int .u8 0] s) 5)) wb.heap.size 5 (some ⟨wr.heap.size, 0, none⟩) s s (fillN ((rowsOf rs1).getD j []) s)) := by
          show Own _ _ _ _ _ _ _
          rw [rowsOf_none H.out.1.1 hlt1, fillN_nil]
          exact (Own.made wr 5 s (by have := HGS.out; omega)).lower hl.2.2.size
        clear hl hka hkw
        go_wp2_with (at_builtin; refine wpList_append_row rfl _ _ 48 rfl ⟨some ⟨wr.heap.size, 0, none⟩, s, s, fillN ((rowsOf rs1).getD j []) s⟩ Try.underlying48 infoRow rfl (HL5.out.1.alloc _) rfl (by rw [World.cell?_alloc_at _ _ _ _ (by simp)]; rfl) (by have := HGS.out; omega) (by have := HL5.out.2.2.size; simp at this ⊢; omega) ?_)
        intro A7 c7 w7 h7 hgr7 hb7
        have HL7 := Lib.hid (HL5.out.more (row_apart HL5.out HO5.out) h7 hgr7 (by simpa using hb7))
        clear h7 hgr7 hb7
        go_wp2_with fail
        go_roundw
        case rel => exact ⟨j + 1, A7, c7, _, by omega, by go_num, rfl, HL7.out, by rw [rowsXs, List.map_append, ← rowsXs, HX.out, symM_succ]; rfl⟩
        case measure => simp [intOf]; omega
    · obtain rfl : j = g := by omega
      have HL := Lib.hid hl
      have HMX : Hid (rowsXs rss = M) := by show _ = _; rw [HX.out, HM.out]
      have hc3 : wr.cell? ⟨gb, 3, none⟩ = some (.slice A2 n2 c2) := by
        have := (hl.2.2.block gb HBQ.out.2).trans HBQ.out.1
        simp [World.cell?, this]
      have HSY : Hid (RowsIn wr (fun b => wb.heap.size ≤ b ∧ b < wr.heap.size) As j rss ∧ ∀ r ∈ rss, r.n = s) := by
        have hd := hl.done 0
        obtain ⟨_, _, _, he, rs', hri, _, hxx, _⟩ := hd
        refine ⟨RowsIn.of_own hl.1 (fun r hr => (hl.2.1 r hr).mono fun b hb => ⟨hb.1, hb.2.1⟩) (fun b hb => hl.1.lt b hb), fun r hr => ?_⟩
        rw [← (hl.2.1 r hr).1]
        have hm : r.xs ∈ symM (rowsOf rs1) s j := by rw [← HX.out]; exact List.mem_map.2 ⟨r, hr, rfl⟩
        obtain ⟨i, _, e⟩ := List.mem_map.1 hm
        rw [← e]; exact fillN_len _ _
      have HKW : Hid (Keep w wr) := KB.out.trans hl.2.2
      clear hl
      go_wp2_with fail
      obtain ⟨w2, rfl⟩ : ∃ w2, w2 = wr := ⟨_, rfl⟩
      go_loopw [5, 47] (fun o i wz => ∃ (k : Nat) (Ar : Option Addr) (cr : Nat) (ps : List PairV), k ≤ n2 ∧ k ≤ 40 ∧ i = .int .i64 k ∧ o = .slice Ar k cr ∧ LaySt w2 wz Ar k cr ps ∧ (ps.map fun p => (p.a.xs, p.b.xs)) = rowsM j s M (rowsOf rs2) k ∧ ∀ p ∈ ps, p.a.n = j ∧ p.b.n = s) (fun _ i _ => n2 - (intOf i).toNat)
      case atStart => exact ⟨0, none, 0, [], by omega, by omega, rfl, rfl, LaySt.nothing w2, rfl, fun p hp => by simp at hp⟩
      case round =>
        clear hc3
        obtain ⟨k, Ar, cr, ps, hk, hk40, rfl, rfl, hl2, hx2, hn2⟩ := hrel
        have HL2 := Lib.hid hl2
        have HX2 := Lib.hid hx2
        have HN2 := Lib.hid hn2
        clear hl2 hx2 hn2
        by_cases hlt2 : k < n2
        · have e5 : (0 : Int) ≤ (k : Int) := Int.natCast_nonneg _
          have e6 : (k : Int) < (n2 : Int) := by omega
          obtain ⟨b, off, r, rfl, hb, hr, hck, hby, hrn, hrc⟩ := (H.out.2.keep (Nat.le_refl _) (HKW.out.trans HL2.out.2.2)).at_ hlt2
          by_cases h40 : k = 40
          · have b4 : ((k : Int) == 40) = true := beq_iff_eq.2 (by omega)
            have H40 := Lib.hid h40
            clear h40 hr hby hrn hrc hb
            go_wp2_with fail
            refine bodyPost_ret (results_tmp4 rfl _ _ _) rfl ?_
            refine ⟨As, cs, rss, Ar, _, cr, ps, rfl, (HSY.out.1.turned (Turned.of_keep (F := fun _ => False) HL2.out.2.2) fun _ _ e => e).mono fun b hb => ⟨Nat.le_trans KB.out.size hb.1, Nat.lt_of_lt_of_le hb.2 HL2.out.2.2.size⟩, HMX.out, HL2.out.stIn.mono fun b hb => ⟨Nat.le_trans HKW.out.size hb.1, hb.2⟩, ?_, HN2.out, HKW.out.trans HL2.out.2.2, HL2.out.1.le⟩
            rw [HX2.out]
            rw [← H40.out]
          · have b4 : ((k : Int) == 40) = false := beq_eq_false_iff_ne.2 (by omega)
            have hb1 := (H.out.2.2.1 r (List.mem_of_getElem? hr)).1.keep (Nat.le_refl _) (HKW.out.trans HL2.out.2.2)
            obtain ⟨w5, vv, hcp, ho5, hk5⟩ := run_copy_fill (P := Try.prog) (t := 31) (e := 5) (c := r.c) (ty := 3) (n := j) Try.underlying31 (by kernel_rfl) hb1 (by have := HKW.out.size; have := HL2.out.2.2.size; omega) (by have := HGS.out; omega)
            have HSU := Lib.hid (rowsM_succ (g := j) (s := s) (M := M) (show (rowsOf rs2)[k]? = some r.xs by rw [rowsOf, List.getElem?_map, hr]; rfl))
            have HL5 := Lib.hid (HL2.out.later hk5)
            have HO5 := Lib.hid ho5
            have HK5 := Lib.hid hk5
            have hk3 : k < 40 := by omega
            clear hr hby hrn hrc ho5 hb hb1 hk5 h40
            go_wp2_with fail
            refine (rtimes_any _ j s j cs _ As _ (fillN r.xs j) rss _ HO5.out.bytes (HSY.out.1.turned (Turned.of_keep (F := fun _ => False) HL5.out.2.2) fun _ _ e => e) (Nat.le_refl _) (fun b hb => Nat.lt_of_lt_of_le hb.2 HL5.out.2.2.size) (by have := HGS.out; omega) (by have := HGS.out; omega) HSY.out.2).mono ?_
            rw [HMX.out]
            rintro e w6 ⟨A6, n6, c6, rfl, o6, k6⟩
            obtain rfl : s = n6 := by rw [← o6.length]; exact (tab_length _ _).symm
            have HO6 := Lib.hid o6
            have HK6 := Lib.hid k6
            clear o6 k6
            go_wp2_with fail
            refine (rowR_any _ A6 j s j c6 _).mono ?_
            rintro e w7 ⟨rfl, k7⟩
            have HL7 := Lib.hid ((HL5.out.later HK6.out).later k7)
            have HOa : Hid (Own w7 w2.heap.size 5 (some ⟨wr.heap.size, 0, none⟩) j j (fillN r.xs j)) := ((HO5.out.keep HK6.out).keep k7).lower HL2.out.2.2.size
            have HOb : Hid (Own w7 w2.heap.size 5 A6 s c6 (payV j s M (fillN r.xs j))) := (HO6.out.keep k7).lower HL5.out.2.2.size
            clear k7
            go_wp2_with (at_builtin; refine wpList_append_st rfl _ _ 54 rfl ⟨⟨some ⟨wr.heap.size, 0, none⟩, j, j, fillN r.xs j⟩, ⟨A6, s, c6, payV j s M (fillN r.xs j)⟩⟩ Try.underlying54 rfl (HL7.out.1.keep ((Keep.refl w7).alloc _ _)) rfl (by rw [World.cell?_alloc_new]; rfl) (by rw [World.cell?_alloc_new]; rfl) (by omega) (by have := HL7.out.2.2.size; simp; omega) ?_)
            intro A8 c8 w8 h8 hgr8 hb8
            have HL8 := Lib.hid (HL7.out.more (HL7.out.apart HOa.out) (HL7.out.apart HOb.out) h8 hgr8 (by simpa using hb8))
            clear h8 hgr8 hb8
            go_wp2_with fail
            go_roundw
            case rel => exact ⟨k + 1, A8, c8, _, by omega, by omega, by go_num, rfl, HL8.out, by rw [List.map_append, HX2.out, HSU.out]; rfl, fun p hp => by
              rcases List.mem_append.1 hp with hp | hp
              · exact HN2.out p hp
              · rw [List.mem_singleton] at hp; subst hp; exact ⟨rfl, rfl⟩⟩
            case measure => simp [intOf]; omega
        · obtain rfl : k = n2 := by omega
          go_wp2_with fail
          refine bodyPost_ret (results_tmp4 rfl _ _ _) rfl ?_
          refine ⟨As, cs, rss, Ar, _, cr, ps, rfl, (HSY.out.1.turned (Turned.of_keep (F := fun _ => False) HL2.out.2.2) fun _ _ e => e).mono fun b hb => ⟨Nat.le_trans KB.out.size hb.1, Nat.lt_of_lt_of_le hb.2 HL2.out.2.2.size⟩, HMX.out, HL2.out.stIn.mono fun b hb => ⟨Nat.le_trans HKW.out.size hb.1, hb.2⟩, ?_, HN2.out, HKW.out.trans HL2.out.2.2, HL2.out.1.le⟩
          rw [HX2.out]
          rw [rowsM, rowsM, List.take_of_length_le (by simp [rowsOf]; have := H.out.2.1; omega), List.take_of_length_le (by simp [rowsOf]; have := H.out.2.1; omega)]
end Go.Proofs.Yticllkklbogcnaa
