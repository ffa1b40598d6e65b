/- The landed frames: read. -/
import Derived.Test.YtifopodnceopjaaGreatDoorQao
import Derived.Test.YtifopodnceopjaaGreatDoorQaa
import Derived.Test.YtifopodnceopjaaGreatDoorQap
import Derived.Deep.RegionHeld3
namespace Go.Proofs.YtifopodnceopjaaGreatDoor
open Go.RowKit Fr
set_option linter.unusedVariables false
set_option linter.unusedSimpArgs false
theorem RfT.other {W w w' : World} {N ge gr hn : Nat} {F G : Nat → Prop} {o : Option (List Nat)} (t : RfT W F N ge gr hn w o) (k : Turned G w w') (hG : ∀ b, G b → ¬ F b ∧ b ≠ gr ∧ b ≠ hn ∧ W.heap.size ≤ b) : RfT W F N ge gr hn w' o :=
  ⟨t.rd.turned k (fun b hb e => (hG b e).1 hb) (fun e => (hG _ e).2.1 rfl), k.cell t.cl (fun e => (hG _ e).2.2.1 rfl), t.nh, t.ng, t.kp.trans k (fun i hi => Or.inr (hG i hi).2.2.2)⟩
theorem FrBox.set {w : World} {g : Nat} {t : TypeId} {m m' : FrM} {f f' : FrV} (h : FrBox w g t m f) (i : Nat) (v : Value) (e : (frCells m f).setIfInBounds i v = frCells m' f') : FrBox (w.setCell ⟨g, i, none⟩ v) g t m' f' := by
  unfold FrBox at *
  rw [← e]
  exact two_set h v
theorem FrBox.free {w : World} {g : Nat} {t : TypeId} {m : FrM} {f : FrV} (h : FrBox w g t m f) (i : Nat) : w.frozen? ⟨g, i, none⟩ = false := by
  unfold FrBox at h
  simp [World.frozen?, h]
theorem FrBox.turned {w w' : World} {g : Nat} {t : TypeId} {m : FrM} {f : FrV} {G : Nat → Prop} (h : FrBox w g t m f) (k : Turned G w w') (hn : ¬ G g) : FrBox w' g t m f :=
  (k.block g (Array.getElem?_eq_some_iff.1 h).1 hn).trans h
theorem FrBox.lt {w : World} {g : Nat} {t : TypeId} {m : FrM} {f : FrV} (h : FrBox w g t m f) : g < w.heap.size := (Array.getElem?_eq_some_iff.1 h).1
/-- A state of the walk: the reader, and the frame so far. -/
structure RdF (W : World) (F : Nat → Prop) (N ge gr hn : Nat) (w : World) (o : Option (List Nat)) (m : FrM) (f : FrV) : Prop where
  t : RfT W F N ge gr hn w o
  res : FrBox w W.heap.size 52 noM noF
  box : FrBox w (W.heap.size + 1) 52 m f
  lo : ∀ b, F b → W.heap.size + 1 < b
  gr2 : W.heap.size + 1 < gr
section
variable {W w w' : World} {F : Nat → Prop} {N ge gr hn : Nat} {o o' : Option (List Nat)} {m m' : FrM} {f f' : FrV}
theorem RdF.hn2 (s : RdF W F N ge gr hn w o m f) : W.heap.size + 1 < hn := by have := s.t.nh; have := s.t.ng; have := s.gr2; omega
theorem RdF.next (s : RdF W F N ge gr hn w o m f) (n : RdS w' F N ge gr o' ∧ Turned F w w') : RdF W F N ge gr hn w' o' m f :=
  ⟨s.t.next n, s.res.turned n.2 (fun e => by have := s.lo _ e; omega), s.box.turned n.2 (fun e => by have := s.lo _ e; omega), s.lo, s.gr2⟩
theorem RdF.set (s : RdF W F N ge gr hn w o m f) (i : Nat) (v : Value) (e : (frCells m f).setIfInBounds i v = frCells m' f') : RdF W F N ge gr hn (w.setCell ⟨W.heap.size + 1, i, none⟩ v) o m' f' := by
  have T : Turned (fun b => b = W.heap.size + 1) w (w.setCell ⟨W.heap.size + 1, i, none⟩ v) := Turned.set w _ _ rfl
  exact ⟨s.t.other T (fun b hb => by
    subst hb
    exact ⟨fun e => by have := s.lo _ e; omega, by have := s.gr2; omega, by have := s.hn2; omega, by omega⟩), s.res.turned T (by omega), s.box.set i v e, s.lo, s.gr2⟩
theorem RdF.keep (s : RdF W F N ge gr hn w o m f) (k : Keep w w') : RdF W F N ge gr hn w' o m f :=
  ⟨s.t.keep k, s.res.keep k, s.box.keep k, s.lo, s.gr2⟩
theorem RdF.turned {G : Nat → Prop} (s : RdF W F N ge gr hn w o m f) (k : Turned G w w') (hG : ∀ b, G b → N ≤ b ∧ b ≠ hn) : RdF W F N ge gr hn w' o m f :=
  ⟨s.t.turned k (fun b hb => by have := hG b hb; have := s.t.ng; have := s.gr2; omega), s.res.turned k (fun e => by have := (hG _ e).1; have := s.t.ng; have := s.gr2; omega), s.box.turned k (fun e => by have := (hG _ e).1; have := s.t.ng; have := s.gr2; omega), s.lo, s.gr2⟩
end
theorem step_store_row {P : Program} {w : World} {ops : Array Oper} {o : Oper} {a : Act} {K : Act → World → Prop} {Q : Exit → Act → World → Prop} {E : Prop} (hgd : o.guard = none) (ty : TypeId) (x y : Operand) (ho : o.op = .store ty x y)
    (g : Nat) (cells : Array Value) (hx : a.eval x = .pointer (some ⟨g, 0, none⟩)) (hy : a.eval y = .agg cells) (t : TypeId) (old : Array Value) (hg : w.heap[g]? = some (.cells old t (0, 0))) (hi : (P.info? ty).map (·.size) = some cells.size)
    (hold : old.size = cells.size) (h1 : cells.all (·.oneCell') = true) (h : K (a.put o.dst undef) (w.setRow g cells)) : if Region.wanted o (yielded ops a.tmps) = true then Oper.wp P o a w K Q else E := by
  have hw : Region.wanted o (yielded ops a.tmps) = true := by simp [Region.wanted, hgd]
  rw [if_pos hw]
  exact wp_store_row ty x y ho g cells hx hy t old hg hi hold h1 h
theorem fr_one (m : FrM) (f : FrV) : (frCells m f).all (·.oneCell') = true := by unfold frCells; kernel_rfl
theorem results_cell_two {P : Program} {fn : Func} {p u : Tmp} {ty : TypeId} (h : fn.results = #[.cell p ty, .tmp u]) (tmps : Array Value) (w : World) (g : Nat) (t : TypeId) (cs : Array Value) (fr : Nat × Nat) (d : TypeDesc)
    (hp : tmps.getD p undef = .pointer (some ⟨g, 0, none⟩)) (hg : w.heap[g]? = some (.cells cs t fr))
    (hu : P.underlying ty = some d) (hd : (match d with | .struct _ | .array _ _ => true | _ => false) = true) (hi : (P.info? ty).map (·.size) = some cs.size) :
    (results fn tmps).run P w = .ok (.tuple #[.agg cs, tmps.getD u undef]) w := by
  have hp' : tmps[p]?.getD undef = .pointer (some ⟨g, 0, none⟩) := by simpa using hp
  simp [results, h, hp', asAddr, run_loadVar_row w g t ty cs fr d hg hu hd hi]
/-- A frame without lists. -/
theorem fr_plain (w : World) (B : Nat) {f : FrV} (h1 : f.co = []) (h2 : f.pay = []) (h3 : f.ranks = []) (h4 : f.up = []) (h5 : f.hops = []) (hi : I64 f.kind ∧ I64 f.src ∧ I64 f.dst ∧ I64 f.flow) (hn : U64 f.ep ∧ U64 f.life ∧ U64 f.gen ∧ U64 f.seq ∧ U64 f.ford ∧ U64 f.tep) : FrIn w B noM f := by
  obtain ⟨kd, s, d, ep, lf, fl, gn, sq, fo, co, pay, rk, te, up, hp⟩ := f
  dsimp only at *
  subst h1 h2 h3 h4 h5
  exact ⟨Bytes.nil _ _ _, Bytes.nil _ _ _, RanksAt.none_ _ _ _, UpsAt.none_ _ _ _, HopsAt.none_ _ _ _, by simp [noM, SlV.ok], hi, hn, fun r hr => by simp at hr, fun l hl => by simp at hl⟩
/-- One operation alone may come up. -/
theorem wpTill_one {P : Program} {md : Region.Mode} {ops : Array Oper} {Q : Exit → Act → World → Prop} {S : World → Prop} {ls : List Nat} {n i : Nat} {o : Oper} {got : Array Bool} {a : Act} {w : World} (hr : Region.ready md ops got = [i]) (ho : ops[i]? = some o)
    (h : ∀ K : Act → World → Prop, Hid (∀ a' w', S w' → wpTill P md ops Q S ls n (got.setIfInBounds i true) a' w' → K a' w') → if Region.wanted o (yielded ops a.tmps) = true then o.wp P a w K Q else K (a.put o.dst undef) w) : wpTill P md ops Q S ls (n + 1) got a w := by
  refine ⟨fun e => absurd (hr.symm.trans e) (by simp), fun j hj => ?_⟩
  rw [hr] at hj
  obtain rfl : j = i := by simpa using hj
  have h2 := h (fun a' w' => (Late ls (got.setIfInBounds j true) ∨ S w') ∧ wpTill P md ops Q S ls n (got.setIfInBounds j true) a' w') (Lib.hid fun a' w' hs ht => ⟨Or.inr hs, ht⟩)
  unfold wpOp
  rw [ho]
  dsimp only
  split
  · rename_i hw
    rw [if_pos hw] at h2
    exact Or.inl h2
  · rename_i hw
    rw [if_neg hw] at h2
    exact h2
/-- What was read stays. -/
theorem own_kept {w0 w1 w' : World} {F G : Nat → Prop} {H base k c : Nat} {A : Option Addr} {xs : List Nat} (o : Own w0 base 5 A k c xs) (tk : Turned (fun b => F b ∨ b = H + 1) w0 w1) (kG : Turned G w1 w') (hG : ∀ b, G b → F b ∨ b ≤ H) (hF : ∀ b, F b → b < base) (hH : H + 1 < base) : Own w' base 5 A k c xs :=
  o.turned (F := fun b => F b ∨ b ≤ H + 1) ((Turned.mono tk (F' := fun b => F b ∨ b ≤ H + 1) (fun i _ e => by rcases e with e | e; exact Or.inl e; exact Or.inr (by omega))).trans kG (fun b e => by
    rcases hG b e with e | e
    · exact Or.inl (Or.inl e)
    · exact Or.inl (Or.inr (by omega)))) (fun b hb e => by
    have h1 := o.rowLe b hb
    rcases e with e | e
    · have := hF b e; omega
    · omega)
theorem owns_kept {w0 w1 w' : World} {F G : Nat → Prop} {H base e size n : Nat} {v : Value} {l : List Value} (o : w0.ownsRow base e size v n l) (tk : Turned (fun b => F b ∨ b = H + 1) w0 w1) (kG : Turned G w1 w') (hG : ∀ b, G b → F b ∨ b ≤ H) (hF : ∀ b, F b → b < base) (hH : H + 1 < base) : w'.ownsRow base e size v n l :=
  ((Turned.mono tk (F' := fun b => F b ∨ b ≤ H + 1) (fun i _ e => by rcases e with e | e; exact Or.inl e; exact Or.inr (by omega))).trans kG (fun b e => by
    rcases hG b e with e | e
    · exact Or.inl (Or.inl e)
    · exact Or.inl (Or.inr (by omega)))).owns o (fun b hb e => by
    have h1 := (World.ownsRow.lt o b hb).1
    rcases e with e | e
    · have := hF b e; omega
    · omega)
/-- What read tells. -/
def ReadTold (xs : List Nat) (W : World) (e : Ending) (w' : World) : Prop :=
  ∃ (m : FrM) (f : FrV) (er : Int), e = .returned (.tuple #[.agg (frCells m f), .int .i64 er]) ∧ (∀ G w'', Turned G w' w'' → (∀ b, G b → b < W.heap.size) → FrIn w'' w''.heap.size m f) ∧ Keep W w' ∧ (er = 0 → parseF xs = some (f, []) ∨ (¬ MayF f ∧ readF xs = none)) ∧ (er ≠ 0 → readF xs = none)
theorem read_told {xs : List Nat} {W w' : World} {m : FrM} {f : FrV} {er : Int} {oE : Option (List Nat)} (hk : Keep W w') (hf : ∀ G w'', Turned G w' w'' → (∀ b, G b → b < W.heap.size) → FrIn w'' w''.heap.size m f) (he : er = 0 ↔ oE = some []) (hp : parseF xs = goO oE (Pa.ret f) ∨ (parseF xs = none ∧ ¬ MayF f)) :
    ReadTold xs W (.returned (.tuple #[.agg (frCells m f), .int .i64 er])) w' := by
  refine ⟨m, f, er, rfl, hf, hk, fun h0 => ?_, fun h0 => ?_⟩
  · rcases hp with h | ⟨h, h2⟩
    · left
      rw [h, he.1 h0]
      rfl
    · right
      exact ⟨h2, by unfold readF; rw [h]⟩
  · rcases hp with h | ⟨h, h2⟩
    · have h3 : oE ≠ some [] := fun e => h0 (he.2 e)
      unfold readF
      rw [h]
      cases oE with
      | none => rfl
      | some L =>
        cases L with
        | nil => exact absurd rfl h3
        | cons x l => rfl
    · unfold readF; rw [h]
theorem resRead : Tryz.f34.results = #[.cell 2 52, .tmp 3] := by kernel_rfl
set_option maxRecDepth 100000 in
set_option maxHeartbeats 8000000 in
theorem gread_any (B n c : Nat) (A : Option Addr) (xs : List Nat) (W : World) (h : Bytes W B A n xs) (hB : B ≤ W.heap.size) (hn : n ≤ 100000) :
    Calls Tryz.prog 34 #[.slice A n c] W (ReadTold xs W) := by
  obtain ⟨H, hH⟩ : ∃ H, W.heap.size = H := ⟨_, rfl⟩
  obtain ⟨w1, hw1⟩ : ∃ w1, (W.alloc (.cells (frCells noM noF) 52)).alloc (.cells (frCells noM noF) 52) = w1 := ⟨_, rfl⟩
  obtain ⟨k1, b1⟩ := fr_boxes W _ _ noM noM noF noF hw1
  obtain ⟨b1, b2⟩ := b1 w1 (Keep.refl w1)
  rw [hH] at b1 b2
  have hs1 : w1.heap.size = H + 2 := by rw [← hw1]; simp; omega
  have HRD := Lib.hid (reading_any B n c A xs w1 (h.keep hB k1) (by omega) (by omega))
  have B1 := Lib.hid b1
  have B2 := Lib.hid b2
  have K1 := Lib.hid k1
  have HW1 : Hid ((W.alloc (.cells #[.int .i64 0, .int .i64 0, .int .i64 0, .int .u64 0, .int .u64 0, .int .i64 0, .int .u64 0, .int .u64 0, .int .u64 0, .slice none 0 0, .slice none 0 0, .slice none 0 0, .int .u64 0, .slice none 0 0, .slice none 0 0] 52)).alloc (.cells #[.int .i64 0, .int .i64 0, .int .i64 0, .int .u64 0, .int .u64 0, .int .i64 0, .int .u64 0, .int .u64 0, .int .u64 0, .slice none 0 0, .slice none 0 0, .slice none 0 0, .int .u64 0, .slice none 0 0, .slice none 0 0] 52) = w1) := hw1
  have HHH := Lib.hid hH
  have HS1 := Lib.hid hs1
  clear h b1 b2 k1 hw1 hs1
  go_enter Tryz.func34, Tryz.ntmps34
  go_wp2_with fail
  refine wp_scope_goto 5 ?_
  go_upto_region 2 with fail
  rw [HW1.out]
  clear hH
  go_wp2_with fail
  refine HRD.out.mono ?_
  rintro e w2 ⟨ge, gr, F, rfl, r2, f2, g2, g3, k2⟩
  simp only [numF, takF, endF]
  obtain ⟨N, hN⟩ : ∃ N, w2.heap.size = N := ⟨_, rfl⟩
  rw [hN] at r2 g3
  obtain ⟨w3, hw3⟩ : ∃ w3, w2.alloc (.cells #[.func (.func 109) #[] #[.pointer (some ⟨ge, 0, none⟩), .pointer (some ⟨gr, 0, none⟩)]] 145) = w3 := ⟨_, rfl⟩
  have k3 : Keep w2 w3 := by rw [← hw3]; exact (Keep.refl w2).alloc _ _
  have c3 : w3.cell? ⟨N, 0, none⟩ = some (numF ge gr) := by
    have h1 := heap_alloc_new w2 (.cells #[.func (.func 109) #[] #[.pointer (some ⟨ge, 0, none⟩), .pointer (some ⟨gr, 0, none⟩)]] 145)
    rw [hw3, hN] at h1
    exact cell_of_one h1
  have s3 : RdF W F N ge gr N w3 (some xs) noM noF := by
    have e1 := HS1.out
    have e2 := HHH.out
    refine ⟨⟨r2.keep k3, c3, Nat.le_refl _, g3, Turned.of_keep ((K1.out.trans k2).trans k3)⟩, ?_, ?_, fun b hb => by have := f2 b hb; omega, by omega⟩
    · rw [e2]; exact (B1.out.keep k2).keep k3
    · rw [e2]; exact (B2.out.keep k2).keep k3
  have S3 := Lib.hid s3
  have HW3 := Lib.hid hw3
  have HNN := Lib.hid hN
  clear r2 f2 g2 g3 k2 hN hw3 k3 c3 s3
  have HC1 := Lib.hid S3.out.t.one
  have bk1 := nxt1_lt S3.out.t.rd
  obtain ⟨k, ek1⟩ : ∃ x, nxtN 1 (some xs) = x := ⟨_, rfl⟩
  obtain ⟨o1, eo1⟩ : ∃ o, nxtO 1 (some xs) = o := ⟨_, rfl⟩
  rw [ek1, eo1] at HC1
  rw [ek1] at bk1
  have HV1 := Lib.hid ek1
  have HO1 := Lib.hid eo1
  clear ek1 eo1
  go_upto_region 4 with fail
  rw [HNN.out, HW3.out]
  go_wp2_with fail
  refine HC1.out.mono ?_
  rintro e w_1 ⟨rfl, n1⟩
  have S1 := Lib.hid (S3.out.next n1)
  clear n1 HC1 S3
  have HC2 := Lib.hid S1.out.t.one
  have bs2 := nxt1_lt S1.out.t.rd
  obtain ⟨s, es2⟩ : ∃ x, nxtN 1 o1 = x := ⟨_, rfl⟩
  obtain ⟨o2, eo2⟩ : ∃ o, nxtO 1 o1 = o := ⟨_, rfl⟩
  rw [es2, eo2] at HC2
  rw [es2] at bs2
  have HV2 := Lib.hid es2
  have HO2 := Lib.hid eo2
  clear es2 eo2
  go_wp2_with fail
  refine HC2.out.mono ?_
  rintro e w_2 ⟨rfl, n2⟩
  have S2 := Lib.hid (S1.out.next n2)
  clear n2 HC2 S1
  have HC3 := Lib.hid S2.out.t.one
  have bd3 := nxt1_lt S2.out.t.rd
  obtain ⟨d, ed3⟩ : ∃ x, nxtN 1 o2 = x := ⟨_, rfl⟩
  obtain ⟨o3, eo3⟩ : ∃ o, nxtO 1 o2 = o := ⟨_, rfl⟩
  rw [ed3, eo3] at HC3
  rw [ed3] at bd3
  have HV3 := Lib.hid ed3
  have HO3 := Lib.hid eo3
  clear ed3 eo3
  go_wp2_with fail
  refine HC3.out.mono ?_
  rintro e w_3 ⟨rfl, n3⟩
  have S3 := Lib.hid (S2.out.next n3)
  clear n3 HC3 S2
  have bx := S3.out.box
  have y0 := bx.cell 0 _ rfl
  have z0 := bx.free 0
  have y1 := bx.cell 1 _ rfl
  have z1 := bx.free 1
  have y2 := bx.cell 2 _ rfl
  have z2 := bx.free 2
  rw [HHH.out] at y0 z0 y1 z1 y2 z2
  clear bx
  have S4 := ((((((S3.out).set 0 (.int .i64 (k : Int)) (m' := noM) (f' := ⟨(k : Int), 0, 0, 0, 0, 0, 0, 0, 0, [], [], [], 0, [], []⟩) rfl)).set 1 (.int .i64 (s : Int)) (m' := noM) (f' := ⟨(k : Int), (s : Int), 0, 0, 0, 0, 0, 0, 0, [], [], [], 0, [], []⟩) rfl)).set 2 (.int .i64 (d : Int)) (m' := noM) (f' := ⟨(k : Int), (s : Int), (d : Int), 0, 0, 0, 0, 0, 0, [], [], [], 0, [], []⟩) rfl)
  rw [HHH.out] at S4
  obtain ⟨w_4, hw4⟩ : ∃ w, (((w_3.setCell ⟨H + 1, 0, none⟩ (.int .i64 (k : Int))).setCell ⟨H + 1, 1, none⟩ (.int .i64 (s : Int))).setCell ⟨H + 1, 2, none⟩ (.int .i64 (d : Int))) = w := ⟨_, rfl⟩
  rw [hw4] at S4
  have S4 := Lib.hid S4
  have HW4 := Lib.hid hw4
  clear hw4
  go_upto_region 5 with fail
  rw [HW4.out]
  clear y0 z0 y1 z1 y2 z2
  clear S3
  have c0 := S4.out.t.cl
  unfold numF at c0
  refine wp_region_noPanic ?_
  refine wp_region_held_drew (S := fun wz => wz.cell? ⟨N, 0, none⟩ = some (.func (.func 109) #[] #[.pointer (some ⟨ge, 0, none⟩), .pointer (some ⟨gr, 0, none⟩)])) (by kernel_rfl) c0 (fun hHeld => ?_)
  clear c0
  have S5 := Lib.hid (S4.out.keep (Keep.refl w_4).drew)
  clear S4
  have HC6 := Lib.hid S5.out.t.eight
  have bep6 := nxt8_lt S5.out.t.rd
  obtain ⟨ep, eep6⟩ : ∃ x, nxtN 8 o3 = x := ⟨_, rfl⟩
  obtain ⟨o6, eo6⟩ : ∃ o, nxtO 8 o3 = o := ⟨_, rfl⟩
  rw [eep6, eo6] at HC6
  rw [eep6] at bep6
  have HV6 := Lib.hid eep6
  have HO6 := Lib.hid eo6
  clear eep6 eo6
  refine wpAnyH_take (i := 0) (v := ?_) rfl (by kernel_rfl) (by kernel_rfl) (by kernel_rfl) (fun _ _ _ h => h) (Or.inl ⟨by rfl, ?_⟩) hHeld ?_
  rotate_left
  · intro wq hSw
    go_simp
    all_goals with_reducible rfl
  try simp only [Act.put, List.getElem_toArray, List.getElem_cons_succ, List.getElem_cons_zero, List.setIfInBounds_toArray, List.set_cons_zero, List.set_cons_succ]
  refine wpAnyH_take (i := 2) (v := ?_) rfl (by kernel_rfl) (by kernel_rfl) (by kernel_rfl) (fun _ _ _ h => h) (Or.inl ⟨by rfl, ?_⟩) hHeld ?_
  rotate_left
  · intro wq hSw
    go_simp
    all_goals with_reducible rfl
  try simp only [Act.put, List.getElem_toArray, List.getElem_cons_succ, List.getElem_cons_zero, List.setIfInBounds_toArray, List.set_cons_zero, List.set_cons_succ]
  refine wpAnyH_ready (rs := [1]) (by kernel_rfl) (by simp) ?_
  refine AllReadyH.cons rfl (fun K hK => ?_) AllReadyH.nil
  go_simp
  refine HC6.out.mono ?_
  rintro e w_6 ⟨rfl, n6⟩
  have S6 := Lib.hid (S5.out.next n6)
  clear n6 HC6 S5
  have c1 := S6.out.t.cl
  unfold numF at c1
  refine hK.out _ _ c1 (fun hHeld => ?_)
  clear hK K c1
  try simp only [Act.put, List.getElem_toArray, List.getElem_cons_succ, List.getElem_cons_zero, List.setIfInBounds_toArray, List.set_cons_zero, List.set_cons_succ]
  have HC7 := Lib.hid S6.out.t.eight
  have blf7 := nxt8_lt S6.out.t.rd
  obtain ⟨lf, elf7⟩ : ∃ x, nxtN 8 o6 = x := ⟨_, rfl⟩
  obtain ⟨o7, eo7⟩ : ∃ o, nxtO 8 o6 = o := ⟨_, rfl⟩
  rw [elf7, eo7] at HC7
  rw [elf7] at blf7
  have HV7 := Lib.hid elf7
  have HO7 := Lib.hid eo7
  clear elf7 eo7
  refine wpAnyH_take (i := 4) (v := ?_) rfl (by kernel_rfl) (by kernel_rfl) (by kernel_rfl) (fun _ _ _ h => h) (Or.inl ⟨by rfl, ?_⟩) hHeld ?_
  rotate_left
  · intro wq hSw
    go_simp
    all_goals with_reducible rfl
  try simp only [Act.put, List.getElem_toArray, List.getElem_cons_succ, List.getElem_cons_zero, List.setIfInBounds_toArray, List.set_cons_zero, List.set_cons_succ]
  refine wpAnyH_ready (rs := [3]) (by kernel_rfl) (by simp) ?_
  refine AllReadyH.cons rfl (fun K hK => ?_) AllReadyH.nil
  go_simp
  refine HC7.out.mono ?_
  rintro e w_7 ⟨rfl, n7⟩
  have S7 := Lib.hid (S6.out.next n7)
  clear n7 HC7 S6
  have c2 := S7.out.t.cl
  unfold numF at c2
  refine hK.out _ _ c2 (fun hHeld => ?_)
  clear hK K c2
  try simp only [Act.put, List.getElem_toArray, List.getElem_cons_succ, List.getElem_cons_zero, List.setIfInBounds_toArray, List.set_cons_zero, List.set_cons_succ]
  have bx := S7.out.box
  have y3 := bx.cell 3 _ rfl
  have z3 := bx.free 3
  rw [HHH.out] at y3 z3
  clear bx
  have S8 := ((S7.out).set 3 (.int .u64 (ep : Int)) (m' := noM) (f' := ⟨(k : Int), (s : Int), (d : Int), ep, 0, 0, 0, 0, 0, [], [], [], 0, [], []⟩) rfl)
  rw [HHH.out] at S8
  obtain ⟨w_8, hw8⟩ : ∃ w, (w_7.setCell ⟨H + 1, 3, none⟩ (.int .u64 (ep : Int))) = w := ⟨_, rfl⟩
  rw [hw8] at S8
  have S8 := Lib.hid S8
  have HW8 := Lib.hid hw8
  clear hw8
  refine wpAnyH_ready (rs := [5]) (by kernel_rfl) (by simp) ?_
  refine AllReadyH.cons rfl (fun K hK => ?_) AllReadyH.nil
  go_simp
  rw [HW8.out]
  clear y3 z3
  clear S7
  have c3 := S8.out.t.cl
  unfold numF at c3
  refine hK.out _ _ c3 (fun hHeld => ?_)
  clear hK K c3
  try simp only [Act.put, List.getElem_toArray, List.getElem_cons_succ, List.getElem_cons_zero, List.setIfInBounds_toArray, List.set_cons_zero, List.set_cons_succ]
  refine wpAnyH_take (i := 6) (v := ?_) rfl (by kernel_rfl) (by kernel_rfl) (by kernel_rfl) (fun _ _ _ h => h) (Or.inl ⟨by rfl, ?_⟩) hHeld ?_
  rotate_left
  · intro wq hSw
    go_simp
    all_goals with_reducible rfl
  try simp only [Act.put, List.getElem_toArray, List.getElem_cons_succ, List.getElem_cons_zero, List.setIfInBounds_toArray, List.set_cons_zero, List.set_cons_succ]
  have bx := S8.out.box
  have y4 := bx.cell 4 _ rfl
  have z4 := bx.free 4
  rw [HHH.out] at y4 z4
  clear bx
  have S9 := ((S8.out).set 4 (.int .u64 (lf : Int)) (m' := noM) (f' := ⟨(k : Int), (s : Int), (d : Int), ep, lf, 0, 0, 0, 0, [], [], [], 0, [], []⟩) rfl)
  rw [HHH.out] at S9
  obtain ⟨w_9, hw9⟩ : ∃ w, (w_8.setCell ⟨H + 1, 4, none⟩ (.int .u64 (lf : Int))) = w := ⟨_, rfl⟩
  rw [hw9] at S9
  have S9 := Lib.hid S9
  have HW9 := Lib.hid hw9
  clear hw9
  refine wpAnyH_ready (rs := [7]) (by kernel_rfl) (by simp) ?_
  refine AllReadyH.cons rfl (fun K hK => ?_) AllReadyH.nil
  go_simp
  rw [HW9.out]
  clear y4 z4
  clear S8
  have c3 := S9.out.t.cl
  unfold numF at c3
  refine hK.out _ _ c3 (fun hHeld => ?_)
  clear hK K c3
  try simp only [Act.put, List.getElem_toArray, List.getElem_cons_succ, List.getElem_cons_zero, List.setIfInBounds_toArray, List.set_cons_zero, List.set_cons_succ]
  refine wpAnyH_done (by kernel_rfl) ?_ _
  refine NoPanic.normal ?_
  clear hHeld
  by_cases hk : k = 1
  · obtain rfl : k = 1 := hk
    have y0 : w_9.cell? ⟨H + 1, 0, none⟩ = some (.int .i64 1) := by
      have := S9.out.box.cell 0 _ rfl
      rw [HHH.out] at this
      exact this
    go_wp2_with fail
    go_step3
    simp only [Exit.inBlock, Exit.then]
    refine gotoQ_goto rfl ?_
    clear y0
    go_wp2_with fail
    have c0 := S9.out.t.cl
    unfold numF at c0
    refine wp_region_noPanic ?_
    refine wp_region_held_drew (S := fun wz => wz.cell? ⟨N, 0, none⟩ = some (.func (.func 109) #[] #[.pointer (some ⟨ge, 0, none⟩), .pointer (some ⟨gr, 0, none⟩)])) (by kernel_rfl) c0 (fun hHeld => ?_)
    clear c0
    have S10 := Lib.hid (S9.out.keep (Keep.refl w_9).drew)
    clear S9
    have HC11 := Lib.hid S10.out.t.one
    have bfl11 := nxt1_lt S10.out.t.rd
    obtain ⟨fl, efl11⟩ : ∃ x, nxtN 1 o7 = x := ⟨_, rfl⟩
    obtain ⟨o11, eo11⟩ : ∃ o, nxtO 1 o7 = o := ⟨_, rfl⟩
    rw [efl11, eo11] at HC11
    rw [efl11] at bfl11
    have HV11 := Lib.hid efl11
    have HO11 := Lib.hid eo11
    clear efl11 eo11
    refine wpAnyH_take (i := 0) (v := ?_) rfl (by kernel_rfl) (by kernel_rfl) (by kernel_rfl) (fun _ _ _ h => h) (Or.inl ⟨by rfl, ?_⟩) hHeld ?_
    rotate_left
    · intro wq hSw
      go_simp
      all_goals with_reducible rfl
    try simp only [Act.put, List.getElem_toArray, List.getElem_cons_succ, List.getElem_cons_zero, List.setIfInBounds_toArray, List.set_cons_zero, List.set_cons_succ]
    refine wpAnyH_take (i := 2) (v := ?_) rfl (by kernel_rfl) (by kernel_rfl) (by kernel_rfl) (fun _ _ _ h => h) (Or.inl ⟨by rfl, ?_⟩) hHeld ?_
    rotate_left
    · intro wq hSw
      go_simp
      all_goals with_reducible rfl
    try simp only [Act.put, List.getElem_toArray, List.getElem_cons_succ, List.getElem_cons_zero, List.setIfInBounds_toArray, List.set_cons_zero, List.set_cons_succ]
    refine wpAnyH_ready (rs := [1]) (by kernel_rfl) (by simp) ?_
    refine AllReadyH.cons rfl (fun K hK => ?_) AllReadyH.nil
    go_simp
    refine HC11.out.mono ?_
    rintro e w_11 ⟨rfl, n11⟩
    have S11 := Lib.hid (S10.out.next n11)
    clear n11 HC11 S10
    have c1 := S11.out.t.cl
    unfold numF at c1
    refine hK.out _ _ c1 (fun hHeld => ?_)
    clear hK K c1
    try simp only [Act.put, List.getElem_toArray, List.getElem_cons_succ, List.getElem_cons_zero, List.setIfInBounds_toArray, List.set_cons_zero, List.set_cons_succ]
    have HC12 := Lib.hid S11.out.t.eight
    have bgn12 := nxt8_lt S11.out.t.rd
    obtain ⟨gn, egn12⟩ : ∃ x, nxtN 8 o11 = x := ⟨_, rfl⟩
    obtain ⟨o12, eo12⟩ : ∃ o, nxtO 8 o11 = o := ⟨_, rfl⟩
    rw [egn12, eo12] at HC12
    rw [egn12] at bgn12
    have HV12 := Lib.hid egn12
    have HO12 := Lib.hid eo12
    clear egn12 eo12
    refine wpAnyH_take (i := 4) (v := ?_) rfl (by kernel_rfl) (by kernel_rfl) (by kernel_rfl) (fun _ _ _ h => h) (Or.inl ⟨by rfl, ?_⟩) hHeld ?_
    rotate_left
    · intro wq hSw
      go_simp
      all_goals with_reducible rfl
    try simp only [Act.put, List.getElem_toArray, List.getElem_cons_succ, List.getElem_cons_zero, List.setIfInBounds_toArray, List.set_cons_zero, List.set_cons_succ]
    refine wpAnyH_ready (rs := [3]) (by kernel_rfl) (by simp) ?_
    refine AllReadyH.cons rfl (fun K hK => ?_) AllReadyH.nil
    go_simp
    refine HC12.out.mono ?_
    rintro e w_12 ⟨rfl, n12⟩
    have S12 := Lib.hid (S11.out.next n12)
    clear n12 HC12 S11
    have c2 := S12.out.t.cl
    unfold numF at c2
    refine hK.out _ _ c2 (fun hHeld => ?_)
    clear hK K c2
    try simp only [Act.put, List.getElem_toArray, List.getElem_cons_succ, List.getElem_cons_zero, List.setIfInBounds_toArray, List.set_cons_zero, List.set_cons_succ]
    have bx := S12.out.box
    have y5 := bx.cell 5 _ rfl
    have z5 := bx.free 5
    rw [HHH.out] at y5 z5
    clear bx
    have S13 := ((S12.out).set 5 (.int .i64 (fl : Int)) (m' := noM) (f' := ⟨1, (s : Int), (d : Int), ep, lf, (fl : Int), 0, 0, 0, [], [], [], 0, [], []⟩) rfl)
    rw [HHH.out] at S13
    obtain ⟨w_13, hw13⟩ : ∃ w, (w_12.setCell ⟨H + 1, 5, none⟩ (.int .i64 (fl : Int))) = w := ⟨_, rfl⟩
    rw [hw13] at S13
    have S13 := Lib.hid S13
    have HW13 := Lib.hid hw13
    clear hw13
    refine wpAnyH_ready (rs := [5]) (by kernel_rfl) (by simp) ?_
    refine AllReadyH.cons rfl (fun K hK => ?_) AllReadyH.nil
    go_simp
    rw [HW13.out]
    clear y5 z5
    clear S12
    have c3 := S13.out.t.cl
    unfold numF at c3
    refine hK.out _ _ c3 (fun hHeld => ?_)
    clear hK K c3
    try simp only [Act.put, List.getElem_toArray, List.getElem_cons_succ, List.getElem_cons_zero, List.setIfInBounds_toArray, List.set_cons_zero, List.set_cons_succ]
    refine wpAnyH_take (i := 6) (v := ?_) rfl (by kernel_rfl) (by kernel_rfl) (by kernel_rfl) (fun _ _ _ h => h) (Or.inl ⟨by rfl, ?_⟩) hHeld ?_
    rotate_left
    · intro wq hSw
      go_simp
      all_goals with_reducible rfl
    try simp only [Act.put, List.getElem_toArray, List.getElem_cons_succ, List.getElem_cons_zero, List.setIfInBounds_toArray, List.set_cons_zero, List.set_cons_succ]
    have bx := S13.out.box
    have y6 := bx.cell 6 _ rfl
    have z6 := bx.free 6
    rw [HHH.out] at y6 z6
    clear bx
    have S14 := ((S13.out).set 6 (.int .u64 (gn : Int)) (m' := noM) (f' := ⟨1, (s : Int), (d : Int), ep, lf, (fl : Int), gn, 0, 0, [], [], [], 0, [], []⟩) rfl)
    rw [HHH.out] at S14
    obtain ⟨w_14, hw14⟩ : ∃ w, (w_13.setCell ⟨H + 1, 6, none⟩ (.int .u64 (gn : Int))) = w := ⟨_, rfl⟩
    rw [hw14] at S14
    have S14 := Lib.hid S14
    have HW14 := Lib.hid hw14
    clear hw14
    refine wpAnyH_ready (rs := [7]) (by kernel_rfl) (by simp) ?_
    refine AllReadyH.cons rfl (fun K hK => ?_) AllReadyH.nil
    go_simp
    rw [HW14.out]
    clear y6 z6
    clear S13
    have c3 := S14.out.t.cl
    unfold numF at c3
    refine hK.out _ _ c3 (fun hHeld => ?_)
    clear hK K c3
    try simp only [Act.put, List.getElem_toArray, List.getElem_cons_succ, List.getElem_cons_zero, List.setIfInBounds_toArray, List.set_cons_zero, List.set_cons_succ]
    refine wpAnyH_done (by kernel_rfl) ?_ _
    refine NoPanic.normal ?_
    clear hHeld
    have y0 : w_14.cell? ⟨H + 1, 0, none⟩ = some (.int .i64 1) := by
      have := S14.out.box.cell 0 _ rfl
      rw [HHH.out] at this
      exact this
    go_wp2_with fail
    go_step3
    clear y0
    have HC15 := Lib.hid S14.out.t.eight
    have bsq15 := nxt8_lt S14.out.t.rd
    obtain ⟨sq, esq15⟩ : ∃ x, nxtN 8 o12 = x := ⟨_, rfl⟩
    obtain ⟨o15, eo15⟩ : ∃ o, nxtO 8 o12 = o := ⟨_, rfl⟩
    rw [esq15, eo15] at HC15
    rw [esq15] at bsq15
    have HV15 := Lib.hid esq15
    have HO15 := Lib.hid eo15
    clear esq15 eo15
    have cc := S14.out.t.cl
    unfold numF at cc
    go_wp2_with fail
    refine HC15.out.mono ?_
    rintro e w_15 ⟨rfl, n15⟩
    have S15 := Lib.hid (S14.out.next n15)
    clear n15 HC15 S14
    clear cc
    have bx := S15.out.box
    have y7 := bx.cell 7 _ rfl
    have z7 := bx.free 7
    rw [HHH.out] at y7 z7
    clear bx
    have S16 := ((S15.out).set 7 (.int .u64 (sq : Int)) (m' := noM) (f' := ⟨1, (s : Int), (d : Int), ep, lf, (fl : Int), gn, sq, 0, [], [], [], 0, [], []⟩) rfl)
    rw [HHH.out] at S16
    obtain ⟨w_16, hw16⟩ : ∃ w, (w_15.setCell ⟨H + 1, 7, none⟩ (.int .u64 (sq : Int))) = w := ⟨_, rfl⟩
    rw [hw16] at S16
    have S16 := Lib.hid S16
    have HW16 := Lib.hid hw16
    clear hw16
    have hw16 := HW16.out
    clear S15
    have y0 : w_16.cell? ⟨H + 1, 0, none⟩ = some (.int .i64 1) := by
      have := S16.out.box.cell 0 _ rfl
      rw [HHH.out] at this
      exact this
    go_wp2_with fail
    clear y0 y7 z7 hw16
    go_step3
    simp only [Exit.inBlock, Exit.then]
    refine gotoQ_goto rfl ?_
    have HC17 := Lib.hid S16.out.t.one
    have bnc17 := nxt1_lt S16.out.t.rd
    obtain ⟨nc, enc17⟩ : ∃ x, nxtN 1 o15 = x := ⟨_, rfl⟩
    obtain ⟨o17, eo17⟩ : ∃ o, nxtO 1 o15 = o := ⟨_, rfl⟩
    rw [enc17, eo17] at HC17
    rw [enc17] at bnc17
    have HV17 := Lib.hid enc17
    have HO17 := Lib.hid eo17
    clear enc17 eo17
    go_wp2_with fail
    refine HC17.out.mono ?_
    rintro e w_17 ⟨rfl, n17⟩
    have S17 := Lib.hid (S16.out.next n17)
    clear n17 HC17 S16
    have HT18 := Lib.hid (rdtake_any F N ge gr nc o17 w_17 S17.out.t.rd)
    obtain ⟨co, eco18⟩ : ∃ x, nxtB nc o17 = x := ⟨_, rfl⟩
    obtain ⟨o18, eo18⟩ : ∃ o, nxtO nc o17 = o := ⟨_, rfl⟩
    have leco := nxtB_len nc o17
    have HWS18 : Hid (H + 1 < w_17.heap.size ∧ ∀ b, F b → b < w_17.heap.size) := by
      have h1 := S17.out.t.size
      have h2 := S17.out.gr2
      have h3 := S17.out.t.ng
      have h4 := HHH.out
      exact ⟨by omega, fun b hb => by have := S17.out.t.rd.2.1 b hb; omega⟩
    rw [eco18, eo18] at HT18
    rw [eco18] at leco
    have HV18 := Lib.hid eco18
    have HO18 := Lib.hid eo18
    clear eco18 eo18
    go_wp2_with fail
    refine HT18.out.mono ?_
    rintro e w_18 ⟨Aco, kco, cco, rfl, owco, n18⟩
    have OWco := Lib.hid owco
    have S18 := Lib.hid (S17.out.next n18)
    clear n18 HT18 S17 owco
    have TKA := Lib.hid (Turned.refl (fun b => F b ∨ b = H + 1) w_18)
    have bx := S18.out.box
    have y9 := bx.cell 9 _ rfl
    have z9 := bx.free 9
    rw [HHH.out] at y9 z9
    clear bx
    have S19 := ((S18.out).set 9 (.slice Aco kco cco) (m' := (⟨⟨Aco, kco, cco⟩, ⟨none, 0, 0⟩, ⟨none, 0, 0⟩, ⟨none, 0, 0⟩, ⟨none, 0, 0⟩⟩ : FrM)) (f' := ⟨1, (s : Int), (d : Int), ep, lf, (fl : Int), gn, sq, 0, co, [], [], 0, [], []⟩) rfl)
    rw [HHH.out] at S19
    obtain ⟨w_19, hw19⟩ : ∃ w, (w_18.setCell ⟨H + 1, 9, none⟩ (.slice Aco kco cco)) = w := ⟨_, rfl⟩
    rw [hw19] at S19
    have S19 := Lib.hid S19
    have HW19 := Lib.hid hw19
    have TK19 := (TKA.out.trans (Turned.set (F := fun b => b = H + 1) w_18 ⟨H + 1, 9, none⟩ (.slice Aco kco cco) rfl) (fun b e => Or.inl (Or.inr e)))
    rw [hw19] at TK19
    have TK19 := Lib.hid TK19
    clear TKA
    clear hw19
    have hw19 := HW19.out
    clear S18
    have HC20 := Lib.hid S19.out.t.two
    have bnp20 := nxt2_lt S19.out.t.rd
    obtain ⟨np, enp20⟩ : ∃ x, nxtN 2 o18 = x := ⟨_, rfl⟩
    obtain ⟨o20, eo20⟩ : ∃ o, nxtO 2 o18 = o := ⟨_, rfl⟩
    rw [enp20, eo20] at HC20
    rw [enp20] at bnp20
    have HV20 := Lib.hid enp20
    have HO20 := Lib.hid eo20
    clear enp20 eo20
    have cc := S19.out.t.cl
    unfold numF at cc
    have wnp : IntKind.i64.wrap (np : Int) = (np : Int) := IntWalk.i64_in _ (by omega)
    go_wp2_with fail
    clear y9 z9 hw19
    refine HC20.out.mono ?_
    rintro e w_20 ⟨rfl, n20⟩
    have S20 := Lib.hid (S19.out.next n20)
    have TK20 := Lib.hid (TK19.out.trans n20.2 (fun b e => Or.inl (Or.inl e)))
    clear TK19
    clear n20 HC20 S19
    clear cc
    have HT21 := Lib.hid (rdtake_any F N ge gr np o20 w_20 S20.out.t.rd)
    obtain ⟨pay, epay21⟩ : ∃ x, nxtB np o20 = x := ⟨_, rfl⟩
    obtain ⟨o21, eo21⟩ : ∃ o, nxtO np o20 = o := ⟨_, rfl⟩
    have lepay := nxtB_len np o20
    have HWS21 : Hid (H + 1 < w_20.heap.size ∧ ∀ b, F b → b < w_20.heap.size) := by
      have h1 := S20.out.t.size
      have h2 := S20.out.gr2
      have h3 := S20.out.t.ng
      have h4 := HHH.out
      exact ⟨by omega, fun b hb => by have := S20.out.t.rd.2.1 b hb; omega⟩
    rw [epay21, eo21] at HT21
    rw [epay21] at lepay
    have HV21 := Lib.hid epay21
    have HO21 := Lib.hid eo21
    clear epay21 eo21
    go_wp2_with fail
    refine HT21.out.mono ?_
    rintro e w_21 ⟨Apay, kpay, cpay, rfl, owpay, n21⟩
    have OWpay := Lib.hid owpay
    have S21 := Lib.hid (S20.out.next n21)
    have TK21 := Lib.hid (TK20.out.trans n21.2 (fun b e => Or.inl (Or.inl e)))
    clear TK20
    clear n21 HT21 S20 owpay
    have TKB := Lib.hid (Turned.refl (fun b => F b ∨ b = H + 1) w_21)
    have bx := S21.out.box
    have y10 := bx.cell 10 _ rfl
    have z10 := bx.free 10
    rw [HHH.out] at y10 z10
    clear bx
    have S22 := ((S21.out).set 10 (.slice Apay kpay cpay) (m' := (⟨⟨Aco, kco, cco⟩, ⟨Apay, kpay, cpay⟩, ⟨none, 0, 0⟩, ⟨none, 0, 0⟩, ⟨none, 0, 0⟩⟩ : FrM)) (f' := ⟨1, (s : Int), (d : Int), ep, lf, (fl : Int), gn, sq, 0, co, pay, [], 0, [], []⟩) rfl)
    rw [HHH.out] at S22
    obtain ⟨w_22, hw22⟩ : ∃ w, (w_21.setCell ⟨H + 1, 10, none⟩ (.slice Apay kpay cpay)) = w := ⟨_, rfl⟩
    rw [hw22] at S22
    have S22 := Lib.hid S22
    have HW22 := Lib.hid hw22
    have TK22 := (TK21.out.trans (Turned.set (F := fun b => b = H + 1) w_21 ⟨H + 1, 10, none⟩ (.slice Apay kpay cpay) rfl) (fun b e => Or.inl (Or.inr e)))
    rw [hw22] at TK22
    have TK22 := Lib.hid TK22
    clear TK21
    clear hw22
    have TKB2 : Turned (fun b => F b ∨ b = H + 1) w_21 (w_21.setCell ⟨H + 1, 10, none⟩ (.slice Apay kpay cpay)) := Turned.mono (Turned.set (F := fun b => b = H + 1) w_21 _ _ rfl) (fun i _ e => Or.inr e)
    rw [HW22.out] at TKB2
    have TKB2 := Lib.hid TKB2
    have hw22 := HW22.out
    clear S21
    go_wp2_with fail
    clear y10 z10 hw22
    go_step3
    simp only [Exit.inBlock, Exit.then]
    refine gotoQ_goto rfl ?_
    have HSEM : Hid (parseF xs = goO o21 (Pa.ret ⟨1, (s : Int), (d : Int), ep, lf, (fl : Int), gn, sq, 0, co, pay, [], 0, [], []⟩) ∨ (parseF xs = none ∧ ¬ MayF ⟨1, (s : Int), (d : Int), ep, lf, (fl : Int), gn, sq, 0, co, pay, [], 0, [], []⟩)) := by
      left
      show goO (some xs) parseF = _
      unfold parseF
      rw [go_num, HV1.out, HO1.out, go_num, HV2.out, HO2.out, go_num, HV3.out, HO3.out, go_num, HV6.out, HO6.out, go_num, HV7.out, HO7.out, rest_1]
      unfold dataP
      rw [go_num, HV11.out, HO11.out, go_num, HV12.out, HO12.out, go_num, HV15.out, HO15.out, go_num, HV17.out, HO17.out, go_take, HV18.out, HO18.out, go_num, HV20.out, HO20.out, go_take, HV21.out, HO21.out]
    have HCON : Hid (∀ (G : Nat → Prop) (w' : World), Turned G w_22 w' → (∀ b, G b → F b ∨ b ≤ H) → FrIn w' w'.heap.size (⟨⟨Aco, kco, cco⟩, ⟨Apay, kpay, cpay⟩, ⟨none, 0, 0⟩, ⟨none, 0, 0⟩, ⟨none, 0, 0⟩⟩ : FrM) ⟨1, (s : Int), (d : Int), ep, lf, (fl : Int), gn, sq, 0, co, pay, [], 0, [], []⟩) := by
      intro G w' kG hG
      have b1 := own_kept OWco.out TK22.out kG hG HWS18.out.2 HWS18.out.1
      have b2 := own_kept OWpay.out TKB2.out kG hG HWS21.out.2 HWS21.out.1
      have l1 := b1.length
      have l2 := b2.length
      exact ⟨b1.bytes, b2.bytes, RanksAt.none_ _ _ _, UpsAt.none_ _ _ _, HopsAt.none_ _ _ _, ⟨⟨show kco ≤ 140737488351232 by omega, own_le' b1⟩, ⟨show kpay ≤ 140737488351232 by omega, own_le' b2⟩, by simp [SlV.ok], by simp [SlV.ok], by simp [SlV.ok]⟩, ⟨by unfold I64; dsimp only; omega, by unfold I64; dsimp only; omega, by unfold I64; dsimp only; omega, by unfold I64; dsimp only; omega⟩, ⟨by unfold U64; dsimp only; omega, by unfold U64; dsimp only; omega, by unfold U64; dsimp only; omega, by unfold U64; dsimp only; omega, by unfold U64; dsimp only; omega, by unfold U64; dsimp only; omega⟩, fun r hr => by simp at hr, fun l hl => by simp at hl⟩
    have SE := Lib.hid (S22.out.keep (Keep.refl w_22).drew)
    have fbx := SE.out.box
    rw [HHH.out] at fbx
    have HE := Lib.hid (rdend_any F N ge gr o21 _ SE.out.t.rd)
    go_wp2_with fail
    refine wp_region_noPanic ?_
    refine wp_region_held_drew (S := fun wz => FrBox wz (H + 1) 52 (⟨⟨Aco, kco, cco⟩, ⟨Apay, kpay, cpay⟩, ⟨none, 0, 0⟩, ⟨none, 0, 0⟩, ⟨none, 0, 0⟩⟩ : FrM) ⟨1, (s : Int), (d : Int), ep, lf, (fl : Int), gn, sq, 0, co, pay, [], 0, [], []⟩) (by kernel_rfl) fbx (fun hHeld => ?_)
    clear fbx
    refine wpAnyH_take (i := 0) (v := ?_) rfl (by kernel_rfl) (by kernel_rfl) (by kernel_rfl) (fun _ _ _ h => h) (Or.inl ⟨by rfl, ?_⟩) hHeld ?_
    rotate_left
    · intro wq hSw
      obtain ⟨⟨y0, y1, y2, y3, y4⟩, ⟨y5, y6, y7, y8⟩, ⟨y9, y10, y11⟩, y12, y13, y14⟩ := FrBox.cells hSw
      dsimp only [noM] at y0 y1 y2 y3 y4 y5 y6 y7 y8 y9 y10 y11 y12 y13 y14
      go_simp
      all_goals with_reducible rfl
    try simp only [Act.put, List.getElem_toArray, List.getElem_cons_succ, List.getElem_cons_zero, List.setIfInBounds_toArray, List.set_cons_zero, List.set_cons_succ]
    refine wpAnyH_take (i := 1) (v := ?_) rfl (by kernel_rfl) (by kernel_rfl) (by kernel_rfl) (fun _ _ _ h => h) (Or.inl ⟨by rfl, ?_⟩) hHeld ?_
    rotate_left
    · intro wq hSw
      go_simp
      all_goals with_reducible rfl
    try simp only [Act.put, List.getElem_toArray, List.getElem_cons_succ, List.getElem_cons_zero, List.setIfInBounds_toArray, List.set_cons_zero, List.set_cons_succ]
    refine wpAnyH_ready (rs := [2]) (by kernel_rfl) (by simp) ?_
    refine AllReadyH.cons rfl (fun K hK => ?_) AllReadyH.nil
    go_simp
    refine HE.out.mono ?_
    rintro e wE ⟨er, rfl, her, tE⟩
    have sE := SE.out.t.kp
    have fbE := SE.out.box.turned tE (fun e => by have := SE.out.lo _ e; omega)
    have rsE := SE.out.res.turned tE (fun e => by have := SE.out.lo _ e; omega)
    rw [HHH.out] at fbE rsE
    have RSE := Lib.hid rsE
    have TE : Hid (Turned F w_22 wE) := (Turned.of_keep (F := F) (Keep.refl w_22).drew).trans tE (fun i e => Or.inl e)
    have KE : Hid (Keep W wE) := (sE.trans tE (fun i e => Or.inl e)).keep_new (fun i e => by have := SE.out.lo i e; omega)
    have HER := Lib.hid her
    clear her tE sE rsE HE
    refine hK.out _ _ fbE (fun hHeld => ?_)
    clear hK K fbE SE
    try simp only [Act.put, List.getElem_toArray, List.getElem_cons_succ, List.getElem_cons_zero, List.setIfInBounds_toArray, List.set_cons_zero, List.set_cons_succ]
    refine wpAnyH_ready (rs := [3]) (by kernel_rfl) (by simp) ?_
    refine AllReadyH.cons rfl (fun K hK => ?_) AllReadyH.nil
    refine step_store_row rfl 52 (.tmp 2) (.tmp 97) rfl H (frCells (⟨⟨Aco, kco, cco⟩, ⟨Apay, kpay, cpay⟩, ⟨none, 0, 0⟩, ⟨none, 0, 0⟩, ⟨none, 0, 0⟩⟩ : FrM) ⟨1, (s : Int), (d : Int), ep, lf, (fl : Int), gn, sq, 0, co, pay, [], 0, [], []⟩) rfl rfl 52 _ RSE.out infoFr rfl (fr_one _ _) ?_
    have fbF : FrBox (wE.setRow H (frCells (⟨⟨Aco, kco, cco⟩, ⟨Apay, kpay, cpay⟩, ⟨none, 0, 0⟩, ⟨none, 0, 0⟩, ⟨none, 0, 0⟩⟩ : FrM) ⟨1, (s : Int), (d : Int), ep, lf, (fl : Int), gn, sq, 0, co, pay, [], 0, [], []⟩)) (H + 1) 52 (⟨⟨Aco, kco, cco⟩, ⟨Apay, kpay, cpay⟩, ⟨none, 0, 0⟩, ⟨none, 0, 0⟩, ⟨none, 0, 0⟩⟩ : FrM) ⟨1, (s : Int), (d : Int), ep, lf, (fl : Int), gn, sq, 0, co, pay, [], 0, [], []⟩ := FrBox.turned hHeld (turned_row wE H _) (by omega)
    have HF : Hid ((wE.setRow H (frCells (⟨⟨Aco, kco, cco⟩, ⟨Apay, kpay, cpay⟩, ⟨none, 0, 0⟩, ⟨none, 0, 0⟩, ⟨none, 0, 0⟩⟩ : FrM) ⟨1, (s : Int), (d : Int), ep, lf, (fl : Int), gn, sq, 0, co, pay, [], 0, [], []⟩)).heap[H]? = some (.cells (frCells (⟨⟨Aco, kco, cco⟩, ⟨Apay, kpay, cpay⟩, ⟨none, 0, 0⟩, ⟨none, 0, 0⟩, ⟨none, 0, 0⟩⟩ : FrM) ⟨1, (s : Int), (d : Int), ep, lf, (fl : Int), gn, sq, 0, co, pay, [], 0, [], []⟩) 52 (0, 0))) := setRow_heap _ _ _ _ _ _ RSE.out
    have TF : Hid (Turned (fun b => F b ∨ b = H) w_22 (wE.setRow H (frCells (⟨⟨Aco, kco, cco⟩, ⟨Apay, kpay, cpay⟩, ⟨none, 0, 0⟩, ⟨none, 0, 0⟩, ⟨none, 0, 0⟩⟩ : FrM) ⟨1, (s : Int), (d : Int), ep, lf, (fl : Int), gn, sq, 0, co, pay, [], 0, [], []⟩))) := (Turned.mono TE.out (F' := fun b => F b ∨ b = H) (fun i _ e => Or.inl e)).trans (turned_row wE H _) (fun i e => Or.inl (Or.inr e))
    have KF : Hid (Keep W (wE.setRow H (frCells (⟨⟨Aco, kco, cco⟩, ⟨Apay, kpay, cpay⟩, ⟨none, 0, 0⟩, ⟨none, 0, 0⟩, ⟨none, 0, 0⟩⟩ : FrM) ⟨1, (s : Int), (d : Int), ep, lf, (fl : Int), gn, sq, 0, co, pay, [], 0, [], []⟩))) := KE.out.setRow (by have := HHH.out; omega) RSE.out
    refine hK.out _ _ fbF (fun hHeld => ?_)
    clear hK K fbF
    try simp only [Act.put, List.getElem_toArray, List.getElem_cons_succ, List.getElem_cons_zero, List.setIfInBounds_toArray, List.set_cons_zero, List.set_cons_succ]
    refine wpAnyH_ready (rs := [4]) (by kernel_rfl) (by simp) ?_
    refine AllReadyH.cons rfl (fun K hK => ?_) AllReadyH.nil
    go_simp
    refine hK.out _ _ hHeld (fun hHeld => ?_)
    clear hK K
    try simp only [Act.put, List.getElem_toArray, List.getElem_cons_succ, List.getElem_cons_zero, List.setIfInBounds_toArray, List.set_cons_zero, List.set_cons_succ]
    refine wpAnyH_done (by kernel_rfl) ?_ _
    refine NoPanic.normal ?_
    clear hHeld
    go_wp2_with fail
    simp only [gotoQ_ret]
    refine bodyPost_ret (results_cell_two (p := 2) (u := 3) (ty := 52) resRead _ _ H 52 _ (0, 0) _ rfl HF.out Tryz.underlying52 rfl infoFr) rfl ?_
    exact read_told KF.out (fun G w'' kG hG => HCON.out (fun b => (F b ∨ b = H) ∨ G b) w'' ((Turned.mono TF.out (F' := fun b => (F b ∨ b = H) ∨ G b) (fun i _ e => Or.inl e)).trans kG (fun b e => Or.inl (Or.inr e))) (fun b hb => by
      rcases hb with (e | e) | e
      · exact Or.inl e
      · exact Or.inr (by omega)
      · exact Or.inr (by have := hG b e; have := HHH.out; omega))) HER.out HSEM.out
  by_cases hk : k = 2
  · obtain rfl : k = 2 := hk
    have y0 : w_9.cell? ⟨H + 1, 0, none⟩ = some (.int .i64 2) := by
      have := S9.out.box.cell 0 _ rfl
      rw [HHH.out] at this
      exact this
    go_wp2_with fail
    go_step3
    simp only [Exit.inBlock, Exit.then]
    refine gotoQ_goto rfl ?_
    clear y0
    go_wp2_with fail
    have c0 := S9.out.t.cl
    unfold numF at c0
    refine wp_region_noPanic ?_
    refine wp_region_held_drew (S := fun wz => wz.cell? ⟨N, 0, none⟩ = some (.func (.func 109) #[] #[.pointer (some ⟨ge, 0, none⟩), .pointer (some ⟨gr, 0, none⟩)])) (by kernel_rfl) c0 (fun hHeld => ?_)
    clear c0
    have S10 := Lib.hid (S9.out.keep (Keep.refl w_9).drew)
    clear S9
    have HC11 := Lib.hid S10.out.t.one
    have bfl11 := nxt1_lt S10.out.t.rd
    obtain ⟨fl, efl11⟩ : ∃ x, nxtN 1 o7 = x := ⟨_, rfl⟩
    obtain ⟨o11, eo11⟩ : ∃ o, nxtO 1 o7 = o := ⟨_, rfl⟩
    rw [efl11, eo11] at HC11
    rw [efl11] at bfl11
    have HV11 := Lib.hid efl11
    have HO11 := Lib.hid eo11
    clear efl11 eo11
    refine wpAnyH_take (i := 0) (v := ?_) rfl (by kernel_rfl) (by kernel_rfl) (by kernel_rfl) (fun _ _ _ h => h) (Or.inl ⟨by rfl, ?_⟩) hHeld ?_
    rotate_left
    · intro wq hSw
      go_simp
      all_goals with_reducible rfl
    try simp only [Act.put, List.getElem_toArray, List.getElem_cons_succ, List.getElem_cons_zero, List.setIfInBounds_toArray, List.set_cons_zero, List.set_cons_succ]
    refine wpAnyH_take (i := 2) (v := ?_) rfl (by kernel_rfl) (by kernel_rfl) (by kernel_rfl) (fun _ _ _ h => h) (Or.inl ⟨by rfl, ?_⟩) hHeld ?_
    rotate_left
    · intro wq hSw
      go_simp
      all_goals with_reducible rfl
    try simp only [Act.put, List.getElem_toArray, List.getElem_cons_succ, List.getElem_cons_zero, List.setIfInBounds_toArray, List.set_cons_zero, List.set_cons_succ]
    refine wpAnyH_ready (rs := [1]) (by kernel_rfl) (by simp) ?_
    refine AllReadyH.cons rfl (fun K hK => ?_) AllReadyH.nil
    go_simp
    refine HC11.out.mono ?_
    rintro e w_11 ⟨rfl, n11⟩
    have S11 := Lib.hid (S10.out.next n11)
    clear n11 HC11 S10
    have c1 := S11.out.t.cl
    unfold numF at c1
    refine hK.out _ _ c1 (fun hHeld => ?_)
    clear hK K c1
    try simp only [Act.put, List.getElem_toArray, List.getElem_cons_succ, List.getElem_cons_zero, List.setIfInBounds_toArray, List.set_cons_zero, List.set_cons_succ]
    have HC12 := Lib.hid S11.out.t.eight
    have bgn12 := nxt8_lt S11.out.t.rd
    obtain ⟨gn, egn12⟩ : ∃ x, nxtN 8 o11 = x := ⟨_, rfl⟩
    obtain ⟨o12, eo12⟩ : ∃ o, nxtO 8 o11 = o := ⟨_, rfl⟩
    rw [egn12, eo12] at HC12
    rw [egn12] at bgn12
    have HV12 := Lib.hid egn12
    have HO12 := Lib.hid eo12
    clear egn12 eo12
    refine wpAnyH_take (i := 4) (v := ?_) rfl (by kernel_rfl) (by kernel_rfl) (by kernel_rfl) (fun _ _ _ h => h) (Or.inl ⟨by rfl, ?_⟩) hHeld ?_
    rotate_left
    · intro wq hSw
      go_simp
      all_goals with_reducible rfl
    try simp only [Act.put, List.getElem_toArray, List.getElem_cons_succ, List.getElem_cons_zero, List.setIfInBounds_toArray, List.set_cons_zero, List.set_cons_succ]
    refine wpAnyH_ready (rs := [3]) (by kernel_rfl) (by simp) ?_
    refine AllReadyH.cons rfl (fun K hK => ?_) AllReadyH.nil
    go_simp
    refine HC12.out.mono ?_
    rintro e w_12 ⟨rfl, n12⟩
    have S12 := Lib.hid (S11.out.next n12)
    clear n12 HC12 S11
    have c2 := S12.out.t.cl
    unfold numF at c2
    refine hK.out _ _ c2 (fun hHeld => ?_)
    clear hK K c2
    try simp only [Act.put, List.getElem_toArray, List.getElem_cons_succ, List.getElem_cons_zero, List.setIfInBounds_toArray, List.set_cons_zero, List.set_cons_succ]
    have bx := S12.out.box
    have y5 := bx.cell 5 _ rfl
    have z5 := bx.free 5
    rw [HHH.out] at y5 z5
    clear bx
    have S13 := ((S12.out).set 5 (.int .i64 (fl : Int)) (m' := noM) (f' := ⟨2, (s : Int), (d : Int), ep, lf, (fl : Int), 0, 0, 0, [], [], [], 0, [], []⟩) rfl)
    rw [HHH.out] at S13
    obtain ⟨w_13, hw13⟩ : ∃ w, (w_12.setCell ⟨H + 1, 5, none⟩ (.int .i64 (fl : Int))) = w := ⟨_, rfl⟩
    rw [hw13] at S13
    have S13 := Lib.hid S13
    have HW13 := Lib.hid hw13
    clear hw13
    refine wpAnyH_ready (rs := [5]) (by kernel_rfl) (by simp) ?_
    refine AllReadyH.cons rfl (fun K hK => ?_) AllReadyH.nil
    go_simp
    rw [HW13.out]
    clear y5 z5
    clear S12
    have c3 := S13.out.t.cl
    unfold numF at c3
    refine hK.out _ _ c3 (fun hHeld => ?_)
    clear hK K c3
    try simp only [Act.put, List.getElem_toArray, List.getElem_cons_succ, List.getElem_cons_zero, List.setIfInBounds_toArray, List.set_cons_zero, List.set_cons_succ]
    refine wpAnyH_take (i := 6) (v := ?_) rfl (by kernel_rfl) (by kernel_rfl) (by kernel_rfl) (fun _ _ _ h => h) (Or.inl ⟨by rfl, ?_⟩) hHeld ?_
    rotate_left
    · intro wq hSw
      go_simp
      all_goals with_reducible rfl
    try simp only [Act.put, List.getElem_toArray, List.getElem_cons_succ, List.getElem_cons_zero, List.setIfInBounds_toArray, List.set_cons_zero, List.set_cons_succ]
    have bx := S13.out.box
    have y6 := bx.cell 6 _ rfl
    have z6 := bx.free 6
    rw [HHH.out] at y6 z6
    clear bx
    have S14 := ((S13.out).set 6 (.int .u64 (gn : Int)) (m' := noM) (f' := ⟨2, (s : Int), (d : Int), ep, lf, (fl : Int), gn, 0, 0, [], [], [], 0, [], []⟩) rfl)
    rw [HHH.out] at S14
    obtain ⟨w_14, hw14⟩ : ∃ w, (w_13.setCell ⟨H + 1, 6, none⟩ (.int .u64 (gn : Int))) = w := ⟨_, rfl⟩
    rw [hw14] at S14
    have S14 := Lib.hid S14
    have HW14 := Lib.hid hw14
    clear hw14
    refine wpAnyH_ready (rs := [7]) (by kernel_rfl) (by simp) ?_
    refine AllReadyH.cons rfl (fun K hK => ?_) AllReadyH.nil
    go_simp
    rw [HW14.out]
    clear y6 z6
    clear S13
    have c3 := S14.out.t.cl
    unfold numF at c3
    refine hK.out _ _ c3 (fun hHeld => ?_)
    clear hK K c3
    try simp only [Act.put, List.getElem_toArray, List.getElem_cons_succ, List.getElem_cons_zero, List.setIfInBounds_toArray, List.set_cons_zero, List.set_cons_succ]
    refine wpAnyH_done (by kernel_rfl) ?_ _
    refine NoPanic.normal ?_
    clear hHeld
    have y0 : w_14.cell? ⟨H + 1, 0, none⟩ = some (.int .i64 2) := by
      have := S14.out.box.cell 0 _ rfl
      rw [HHH.out] at this
      exact this
    go_wp2_with fail
    go_step3
    clear y0
    have HC15 := Lib.hid S14.out.t.eight
    have bsq15 := nxt8_lt S14.out.t.rd
    obtain ⟨sq, esq15⟩ : ∃ x, nxtN 8 o12 = x := ⟨_, rfl⟩
    obtain ⟨o15, eo15⟩ : ∃ o, nxtO 8 o12 = o := ⟨_, rfl⟩
    rw [esq15, eo15] at HC15
    rw [esq15] at bsq15
    have HV15 := Lib.hid esq15
    have HO15 := Lib.hid eo15
    clear esq15 eo15
    have cc := S14.out.t.cl
    unfold numF at cc
    go_wp2_with fail
    refine HC15.out.mono ?_
    rintro e w_15 ⟨rfl, n15⟩
    have S15 := Lib.hid (S14.out.next n15)
    clear n15 HC15 S14
    clear cc
    have bx := S15.out.box
    have y7 := bx.cell 7 _ rfl
    have z7 := bx.free 7
    rw [HHH.out] at y7 z7
    clear bx
    have S16 := ((S15.out).set 7 (.int .u64 (sq : Int)) (m' := noM) (f' := ⟨2, (s : Int), (d : Int), ep, lf, (fl : Int), gn, sq, 0, [], [], [], 0, [], []⟩) rfl)
    rw [HHH.out] at S16
    obtain ⟨w_16, hw16⟩ : ∃ w, (w_15.setCell ⟨H + 1, 7, none⟩ (.int .u64 (sq : Int))) = w := ⟨_, rfl⟩
    rw [hw16] at S16
    have S16 := Lib.hid S16
    have HW16 := Lib.hid hw16
    clear hw16
    have hw16 := HW16.out
    clear S15
    have y0 : w_16.cell? ⟨H + 1, 0, none⟩ = some (.int .i64 2) := by
      have := S16.out.box.cell 0 _ rfl
      rw [HHH.out] at this
      exact this
    go_wp2_with fail
    clear y0 y7 z7 hw16
    go_step3
    simp only [Exit.inBlock, Exit.then]
    refine gotoQ_goto rfl ?_
    have HC17 := Lib.hid S16.out.t.one
    have bnk17 := nxt1_lt S16.out.t.rd
    obtain ⟨nk, enk17⟩ : ∃ x, nxtN 1 o15 = x := ⟨_, rfl⟩
    obtain ⟨o17, eo17⟩ : ∃ o, nxtO 1 o15 = o := ⟨_, rfl⟩
    rw [enk17, eo17] at HC17
    rw [enk17] at bnk17
    have HV17 := Lib.hid enk17
    have HO17 := Lib.hid eo17
    clear enk17 eo17
    go_wp2_with fail
    refine HC17.out.mono ?_
    rintro e w_17 ⟨rfl, n17⟩
    have S17 := Lib.hid (S16.out.next n17)
    clear n17 HC17 S16
    obtain ⟨M, hM⟩ : ∃ M, w_17.heap.size = M := ⟨_, rfl⟩
    have HWS : Hid (H + 1 < M ∧ (∀ b, F b → b < M) ∧ N < M) := by
      have h1 := S17.out.t.size
      have h2 := S17.out.gr2
      have h3 := S17.out.t.ng
      have h4 := HHH.out
      have h5 : N < w_17.heap.size := World.block_lt_of_cell? _ _ S17.out.t.cl
      exact ⟨by omega, fun b hb => by have := S17.out.t.rd.2.1 b hb; omega, by omega⟩
    have HMM := Lib.hid hM
    clear hM
    go_wp2_with fail
    go_loopw [80] (fun iv wr => ∃ (i : Nat) (Ar : Option Addr) (cr : Nat) (rks : List (Nat × Int)) (oi : Option (List Nat)), i ≤ nk ∧ iv = .int .i64 i ∧ RdF W F N ge gr N wr oi (⟨⟨none, 0, 0⟩, ⟨none, 0, 0⟩, ⟨Ar, i, cr⟩, ⟨none, 0, 0⟩, ⟨none, 0, 0⟩⟩ : FrM) ⟨2, (s : Int), (d : Int), ep, lf, (fl : Int), gn, sq, 0, [], [], rks, 0, [], []⟩ ∧ ManyS rankP o17 nk i rks oi ∧ wr.ownsRow M 93 2 (.slice Ar i cr) i (rks.flatMap rankCells) ∧ rks.length = i ∧ (∀ r ∈ rks, U64 r.1 ∧ I64 r.2) ∧ M ≤ wr.heap.size) (fun iv _ => nk - (intOf iv).toNat)
    case atStart => exact ⟨0, none, 0, [], _, by omega, rfl, S17.out, ManyS.start _ _ _, World.ownsRow_nil _ _ _ _, rfl, fun r hr => by simp at hr, Nat.le_of_eq HMM.out.symm⟩
    case round =>
      obtain ⟨i, Ar, cr, rks, oi, hi, rfl, st, ms, ow, hrl, hbd, hMr⟩ := hrel
      have ST := Lib.hid st
      have MS := Lib.hid ms
      have OW := Lib.hid ow
      have HRL := Lib.hid hrl
      have HBD := Lib.hid hbd
      have e1 : (0 : Int) ≤ (i : Int) := Int.natCast_nonneg _
      clear st ms ow hrl hbd S17
      by_cases hlt : i < nk
      · have e2 : (i : Int) < (nk : Int) := by omega
        go_wp2_with fail
        have SD := Lib.hid (ST.out.keep (Keep.refl wr).drew)
        refine wp_region_noPanic ?_
        refine wp_region_till [10] (fun wz : World => wz.cell? ⟨N, 0, none⟩ = some (.func (.func 109) #[] #[.pointer (some ⟨ge, 0, none⟩), .pointer (some ⟨gr, 0, none⟩)]) ∧ wz.cell? ⟨H + 1, 11, none⟩ = some (.slice Ar i cr)) (by kernel_rfl) ?_
        have c1 := SD.out.t.cl
        unfold numF at c1
        have fb1 := SD.out.box.cell 11 _ rfl
        rw [HHH.out] at fb1
        have hHeld : (fun wz : World => wz.cell? ⟨N, 0, none⟩ = some (.func (.func 109) #[] #[.pointer (some ⟨ge, 0, none⟩), .pointer (some ⟨gr, 0, none⟩)]) ∧ wz.cell? ⟨H + 1, 11, none⟩ = some (.slice Ar i cr)) wr.drew := ⟨c1, fb1⟩
        clear c1 fb1
        refine wpTill_free (i := 0) (v := ?_) rfl (by kernel_rfl) (by kernel_rfl) (by kernel_rfl) (by kernel_rfl) (fun _ _ _ h => h) (Or.inl ⟨by rfl, ?_⟩) hHeld ?_
        rotate_left
        · intro wq hSw
          go_simp
          all_goals with_reducible rfl
        try simp only [Act.put, List.getElem_toArray, List.getElem_cons_succ, List.getElem_cons_zero, List.setIfInBounds_toArray, List.set_cons_zero, List.set_cons_succ]
        refine wpTill_take (i := 1) (v := ?_) rfl (by kernel_rfl) (by kernel_rfl) (by kernel_rfl) (by kernel_rfl) (fun _ _ _ h => h) (Or.inl ⟨by rfl, ?_⟩) hHeld ?_
        rotate_left
        · intro wq hSw
          have q0 := hSw.2
          go_simp
          all_goals with_reducible rfl
        try simp only [Act.put, List.getElem_toArray, List.getElem_cons_succ, List.getElem_cons_zero, List.setIfInBounds_toArray, List.set_cons_zero, List.set_cons_succ]
        refine wpTill_take (i := 2) (v := ?_) rfl (by kernel_rfl) (by kernel_rfl) (by kernel_rfl) (by kernel_rfl) (fun _ _ _ h => h) (Or.inl ⟨by rfl, ?_⟩) hHeld ?_
        rotate_left
        · intro wq hSw
          have q0 := hSw.1
          go_simp
          all_goals with_reducible rfl
        try simp only [Act.put, List.getElem_toArray, List.getElem_cons_succ, List.getElem_cons_zero, List.setIfInBounds_toArray, List.set_cons_zero, List.set_cons_succ]
        refine wpTill_free (i := 4) (v := ?_) rfl (by kernel_rfl) (by kernel_rfl) (by kernel_rfl) (by kernel_rfl) (fun _ _ _ h => h) (Or.inl ⟨by rfl, ?_⟩) hHeld ?_
        rotate_left
        · intro wq hSw
          go_simp
          all_goals with_reducible rfl
        try simp only [Act.put, List.getElem_toArray, List.getElem_cons_succ, List.getElem_cons_zero, List.setIfInBounds_toArray, List.set_cons_zero, List.set_cons_succ]
        have HC18 := Lib.hid SD.out.t.eight
        have brg18 := nxt8_lt SD.out.t.rd
        obtain ⟨rg, erg18⟩ : ∃ x, nxtN 8 oi = x := ⟨_, rfl⟩
        obtain ⟨o18, eo18⟩ : ∃ o, nxtO 8 oi = o := ⟨_, rfl⟩
        rw [erg18, eo18] at HC18
        rw [erg18] at brg18
        have HV18 := Lib.hid erg18
        have HO18 := Lib.hid eo18
        clear erg18 eo18
        refine wpTill_one (i := 3) (by kernel_rfl) rfl (fun K hK => ?_)
        go_simp
        refine HC18.out.mono ?_
        rintro e w_18 ⟨rfl, n18⟩
        have S18 := Lib.hid (SD.out.next n18)
        have NT18 := Lib.hid n18.2
        clear n18 HC18 SD
        have c1 := S18.out.t.cl
        unfold numF at c1
        have fb1 := S18.out.box.cell 11 _ rfl
        rw [HHH.out] at fb1
        have hHeld2 : (fun wz : World => wz.cell? ⟨N, 0, none⟩ = some (.func (.func 109) #[] #[.pointer (some ⟨ge, 0, none⟩), .pointer (some ⟨gr, 0, none⟩)]) ∧ wz.cell? ⟨H + 1, 11, none⟩ = some (.slice Ar i cr)) w_18 := ⟨c1, fb1⟩
        clear c1 fb1
        refine hK.out _ _ hHeld2 ?_
        clear hK K hHeld
        have hHeld := hHeld2
        clear hHeld2
        try simp only [Act.put, List.getElem_toArray, List.getElem_cons_succ, List.getElem_cons_zero, List.setIfInBounds_toArray, List.set_cons_zero, List.set_cons_succ]
        have HC19 := Lib.hid S18.out.t.one
        have brr19 := nxt1_lt S18.out.t.rd
        obtain ⟨rr, err19⟩ : ∃ x, nxtN 1 o18 = x := ⟨_, rfl⟩
        obtain ⟨o19, eo19⟩ : ∃ o, nxtO 1 o18 = o := ⟨_, rfl⟩
        rw [err19, eo19] at HC19
        rw [err19] at brr19
        have HV19 := Lib.hid err19
        have HO19 := Lib.hid eo19
        clear err19 eo19
        refine wpTill_one (i := 5) (by kernel_rfl) rfl (fun K hK => ?_)
        go_simp
        refine HC19.out.mono ?_
        rintro e w_19 ⟨rfl, n19⟩
        have S19 := Lib.hid (S18.out.next n19)
        have NT19 := Lib.hid n19.2
        clear n19 HC19 S18
        have c1 := S19.out.t.cl
        unfold numF at c1
        have fb1 := S19.out.box.cell 11 _ rfl
        rw [HHH.out] at fb1
        have hHeld2 : (fun wz : World => wz.cell? ⟨N, 0, none⟩ = some (.func (.func 109) #[] #[.pointer (some ⟨ge, 0, none⟩), .pointer (some ⟨gr, 0, none⟩)]) ∧ wz.cell? ⟨H + 1, 11, none⟩ = some (.slice Ar i cr)) w_19 := ⟨c1, fb1⟩
        clear c1 fb1
        refine hK.out _ _ hHeld2 ?_
        clear hK K hHeld
        have hHeld := hHeld2
        clear hHeld2
        try simp only [Act.put, List.getElem_toArray, List.getElem_cons_succ, List.getElem_cons_zero, List.setIfInBounds_toArray, List.set_cons_zero, List.set_cons_succ]
        refine wpTill_free (i := 6) (v := ?_) rfl (by kernel_rfl) (by kernel_rfl) (by kernel_rfl) (by kernel_rfl) (fun _ _ _ h => h) (Or.inl ⟨by rfl, ?_⟩) hHeld ?_
        rotate_left
        · intro wq hSw
          go_simp
          all_goals with_reducible rfl
        try simp only [Act.put, List.getElem_toArray, List.getElem_cons_succ, List.getElem_cons_zero, List.setIfInBounds_toArray, List.set_cons_zero, List.set_cons_succ]
        refine wpTill_one (i := 7) (by kernel_rfl) rfl (fun K hK => ?_)
        go_simp
        obtain ⟨wl, hwl⟩ : ∃ wl, w_19.alloc (.cells #[.int .u64 (rg : Int), .int .i64 (rr : Int)] 93) = wl := ⟨_, rfl⟩
        have kl : Keep w_19 wl := by rw [← hwl]; exact (Keep.refl w_19).alloc _ _
        have SL := Lib.hid (S19.out.keep kl)
        have tF : Turned F wr w_19 := (((Turned.of_keep (F := F) (Keep.refl wr).drew).trans NT18.out (fun b e => Or.inl e)).trans NT19.out (fun b e => Or.inl e))
        have OWL : Hid (wl.ownsRow M 93 2 (.slice Ar i cr) i (rks.flatMap rankCells)) := owns_keep (tF.owns OW.out (fun b hb e => by have := (World.ownsRow.lt OW.out b hb).1; have := HWS.out.2.1 b e; omega)) kl
        have hMl : M ≤ w_19.heap.size := Nat.le_trans hMr tF.size
        have HCL : Hid (∀ j u, [Value.int .u64 (rg : Int), .int .i64 (rr : Int)][j]? = some u → wl.cell? ⟨w_19.heap.size, j, none⟩ = some u) := fun j u hu => by
          rw [← hwl, cell_of_row _ _ _ _ _ _ (heap_alloc_new w_19 _)]
          simpa using hu
        have HSL : Hid (wl.heap.size = w_19.heap.size + 1) := by show _ = _; rw [← hwl]; simp
        have KL := Lib.hid kl
        have HTF := Lib.hid tF
        rw [hwl]
        clear hwl kl tF S19
        have c1 := SL.out.t.cl
        unfold numF at c1
        have fb1 := SL.out.box.cell 11 _ rfl
        rw [HHH.out] at fb1
        have hHeld2 : (fun wz : World => wz.cell? ⟨N, 0, none⟩ = some (.func (.func 109) #[] #[.pointer (some ⟨ge, 0, none⟩), .pointer (some ⟨gr, 0, none⟩)]) ∧ wz.cell? ⟨H + 1, 11, none⟩ = some (.slice Ar i cr)) wl := ⟨c1, fb1⟩
        clear c1 fb1
        refine hK.out _ _ hHeld2 ?_
        clear hK K hHeld
        have hHeld := hHeld2
        clear hHeld2
        try simp only [Act.put, List.getElem_toArray, List.getElem_cons_succ, List.getElem_cons_zero, List.setIfInBounds_toArray, List.set_cons_zero, List.set_cons_succ]
        have hi9 : i ≤ 1000000 := by omega
        have HML : Hid (M ≤ wl.heap.size) := by have := HSL.out; show M ≤ _; omega
        refine wpTill_one (i := 8) (by kernel_rfl) rfl (fun K hK => ?_)
        refine step_append_cells rfl _ _ 46 rfl [.int .u64 (rg : Int), .int .i64 (rr : Int)] Tryz.underlying46 infoRank rfl (by decide) (by decide) rfl OWL.out rfl rfl HCL.out (by intro u hu; simp at hu; rcases hu with rfl | rfl <;> rfl) hi9 HML.out ?_
        intro A2 c2 we h7 g7 r7
        have T7 : Turned (fun b => (Value.slice Ar i cr).ownBlock = some b) wl we := Turned.of_grown g7 (fun i e => e)
        have hlo : ∀ b, (Value.slice Ar i cr).ownBlock = some b → M ≤ b := fun b hb => (World.ownsRow.lt OWL.out b hb).1
        have SA := Lib.hid (SL.out.turned T7 (fun b hb => by have := hlo b hb; have := HWS.out.2.2; omega))
        have OWA : Hid (we.ownsRow M 93 2 (.slice A2 (i + 1) c2) (i + 1) ((rks ++ [(rg, (rr : Int))]).flatMap rankCells)) := by
          show World.ownsRow _ _ _ _ _ _ _
          rw [List.flatMap_append]
          simpa [rankCells] using h7
        have hMe : M ≤ we.heap.size := Nat.le_trans HML.out T7.size
        clear h7 g7 r7 T7 hlo SL
        have c1 := SA.out.t.cl
        unfold numF at c1
        have fb1 := SA.out.box.cell 11 _ rfl
        rw [HHH.out] at fb1
        have hHeld2 : (fun wz : World => wz.cell? ⟨N, 0, none⟩ = some (.func (.func 109) #[] #[.pointer (some ⟨ge, 0, none⟩), .pointer (some ⟨gr, 0, none⟩)]) ∧ wz.cell? ⟨H + 1, 11, none⟩ = some (.slice Ar i cr)) we := ⟨c1, fb1⟩
        clear c1 fb1
        refine hK.out _ _ hHeld2 ?_
        clear hK K hHeld
        have hHeld := hHeld2
        clear hHeld2
        try simp only [Act.put, List.getElem_toArray, List.getElem_cons_succ, List.getElem_cons_zero, List.setIfInBounds_toArray, List.set_cons_zero, List.set_cons_succ]
        refine wpTill_free (i := 9) (v := ?_) rfl (by kernel_rfl) (by kernel_rfl) (by kernel_rfl) (by kernel_rfl) (fun _ _ _ h => h) (Or.inl ⟨by rfl, ?_⟩) hHeld ?_
        rotate_left
        · intro wq hSw
          go_simp
          all_goals with_reducible rfl
        try simp only [Act.put, List.getElem_toArray, List.getElem_cons_succ, List.getElem_cons_zero, List.setIfInBounds_toArray, List.set_cons_zero, List.set_cons_succ]
        refine wpTill_turn (t := 10) (by kernel_rfl) (by kernel_rfl) (by kernel_rfl) ?_
        clear hHeld
        have hHeld : (fun _ : World => True) we := trivial
        have bx := SA.out.box
        have y11 := bx.cell 11 _ rfl
        have z11 := bx.free 11
        rw [HHH.out] at y11 z11
        clear bx
        have S20 := ((SA.out).set 11 (.slice A2 (i + 1) c2) (m' := (⟨⟨none, 0, 0⟩, ⟨none, 0, 0⟩, ⟨A2, i + 1, c2⟩, ⟨none, 0, 0⟩, ⟨none, 0, 0⟩⟩ : FrM)) (f' := ⟨2, (s : Int), (d : Int), ep, lf, (fl : Int), gn, sq, 0, [], [], (rks ++ [(rg, (rr : Int))]), 0, [], []⟩) rfl)
        rw [HHH.out] at S20
        obtain ⟨w_20, hw20⟩ : ∃ w, (we.setCell ⟨H + 1, 11, none⟩ (.slice A2 (i + 1) c2)) = w := ⟨_, rfl⟩
        rw [hw20] at S20
        have S20 := Lib.hid S20
        have HW20 := Lib.hid hw20
        clear hw20
        refine wpAnyH_ready (rs := [10]) (by kernel_rfl) (by simp) ?_
        refine AllReadyH.cons rfl (fun K hK => ?_) AllReadyH.nil
        go_simp
        rw [HW20.out]
        clear y11 z11
        have OWB : Hid (w_20.ownsRow M 93 2 (.slice A2 (i + 1) c2) (i + 1) ((rks ++ [(rg, (rr : Int))]).flatMap rankCells)) := by
          show World.ownsRow _ _ _ _ _ _ _
          rw [← HW20.out]
          exact (Turned.set (F := fun b => b = H + 1) we _ _ rfl).owns OWA.out (fun b hb e => by have := (World.ownsRow.lt OWA.out b hb).1; have := HWS.out.1; omega)
        have hMw : M ≤ w_20.heap.size := by rw [← HW20.out]; simpa [World.setCell] using hMe
        clear SA OWA
        refine hK.out _ _ trivial (fun hHeld => ?_)
        clear hK K
        try simp only [Act.put, List.getElem_toArray, List.getElem_cons_succ, List.getElem_cons_zero, List.setIfInBounds_toArray, List.set_cons_zero, List.set_cons_succ]
        refine wpAnyH_done (by kernel_rfl) ?_ _
        refine NoPanic.normal ?_
        clear hHeld
        have MS2 : Hid (ManyS rankP o17 nk (i + 1) (rks ++ [(rg, (rr : Int))]) o19) := MS.out.step hlt (fun β Q => by rw [go_rank, HV18.out, HO18.out, HV19.out, HO19.out])
        have BD2 : Hid (∀ r ∈ rks ++ [(rg, (rr : Int))], U64 r.1 ∧ I64 r.2) := fun r hr => by
          rcases List.mem_append.1 hr with h1 | h1
          · exact HBD.out r h1
          · simp at h1
            subst h1
            unfold U64 I64
            dsimp only
            omega
        have RL2 : Hid ((rks ++ [(rg, (rr : Int))]).length = i + 1) := by show _ = _; rw [List.length_append, HRL.out, List.length_singleton]
        go_wp2_with fail
        go_roundw
        case rel => exact ⟨i + 1, A2, c2, _, _, by omega, by go_num, S20.out, MS2.out, OWB.out, RL2.out, BD2.out, hMw⟩
        case measure => simp [intOf]; omega
      · obtain rfl : nk = i := by omega
        go_wp2_with fail
        go_step3
        simp only [Exit.inBlock, Exit.then]
        refine gotoQ_goto rfl ?_
        have HSEM : Hid (parseF xs = goO oi (Pa.ret ⟨2, (s : Int), (d : Int), ep, lf, (fl : Int), gn, sq, 0, [], [], rks, 0, [], []⟩) ∨ (parseF xs = none ∧ ¬ MayF ⟨2, (s : Int), (d : Int), ep, lf, (fl : Int), gn, sq, 0, [], [], rks, 0, [], []⟩)) := by
          left
          show goO (some xs) parseF = _
          unfold parseF
          rw [go_num, HV1.out, HO1.out, go_num, HV2.out, HO2.out, go_num, HV3.out, HO3.out, go_num, HV6.out, HO6.out, go_num, HV7.out, HO7.out, rest_2]
          unfold feedP
          rw [go_num, HV11.out, HO11.out, go_num, HV12.out, HO12.out, go_num, HV15.out, HO15.out, go_num, HV17.out, HO17.out, MS.out.end_]
        have HCON : Hid (∀ (G : Nat → Prop) (w' : World), Turned G wr w' → (∀ b, G b → F b ∨ b ≤ H) → FrIn w' w'.heap.size (⟨⟨none, 0, 0⟩, ⟨none, 0, 0⟩, ⟨Ar, nk, cr⟩, ⟨none, 0, 0⟩, ⟨none, 0, 0⟩⟩ : FrM) ⟨2, (s : Int), (d : Int), ep, lf, (fl : Int), gn, sq, 0, [], [], rks, 0, [], []⟩) := by
          intro G w' kG hG
          have o1 := owns_kept OW.out (Turned.refl _ _) kG hG HWS.out.2.1 HWS.out.1
          exact ⟨Bytes.nil _ _ _, Bytes.nil _ _ _, ranks_owned o1 HRL.out, UpsAt.none_ _ _ _, HopsAt.none_ _ _ _, ⟨by simp [SlV.ok], by simp [SlV.ok], ⟨show nk ≤ 140737488351232 by omega, show nk ≤ cr from owns_le o1⟩, by simp [SlV.ok], by simp [SlV.ok]⟩, ⟨by unfold I64; dsimp only; omega, by unfold I64; dsimp only; omega, by unfold I64; dsimp only; omega, by unfold I64; dsimp only; omega⟩, ⟨by unfold U64; dsimp only; omega, by unfold U64; dsimp only; omega, by unfold U64; dsimp only; omega, by unfold U64; dsimp only; omega, by unfold U64; dsimp only; omega, by unfold U64; dsimp only; omega⟩, HBD.out, fun l hl => by simp at hl⟩
        have SE := Lib.hid (ST.out.keep (Keep.refl wr).drew)
        have fbx := SE.out.box
        rw [HHH.out] at fbx
        have HE := Lib.hid (rdend_any F N ge gr oi _ SE.out.t.rd)
        go_wp2_with fail
        refine wp_region_noPanic ?_
        refine wp_region_held_drew (S := fun wz => FrBox wz (H + 1) 52 (⟨⟨none, 0, 0⟩, ⟨none, 0, 0⟩, ⟨Ar, nk, cr⟩, ⟨none, 0, 0⟩, ⟨none, 0, 0⟩⟩ : FrM) ⟨2, (s : Int), (d : Int), ep, lf, (fl : Int), gn, sq, 0, [], [], rks, 0, [], []⟩) (by kernel_rfl) fbx (fun hHeld => ?_)
        clear fbx
        refine wpAnyH_take (i := 0) (v := ?_) rfl (by kernel_rfl) (by kernel_rfl) (by kernel_rfl) (fun _ _ _ h => h) (Or.inl ⟨by rfl, ?_⟩) hHeld ?_
        rotate_left
        · intro wq hSw
          obtain ⟨⟨y0, y1, y2, y3, y4⟩, ⟨y5, y6, y7, y8⟩, ⟨y9, y10, y11⟩, y12, y13, y14⟩ := FrBox.cells hSw
          dsimp only [noM] at y0 y1 y2 y3 y4 y5 y6 y7 y8 y9 y10 y11 y12 y13 y14
          go_simp
          all_goals with_reducible rfl
        try simp only [Act.put, List.getElem_toArray, List.getElem_cons_succ, List.getElem_cons_zero, List.setIfInBounds_toArray, List.set_cons_zero, List.set_cons_succ]
        refine wpAnyH_take (i := 1) (v := ?_) rfl (by kernel_rfl) (by kernel_rfl) (by kernel_rfl) (fun _ _ _ h => h) (Or.inl ⟨by rfl, ?_⟩) hHeld ?_
        rotate_left
        · intro wq hSw
          go_simp
          all_goals with_reducible rfl
        try simp only [Act.put, List.getElem_toArray, List.getElem_cons_succ, List.getElem_cons_zero, List.setIfInBounds_toArray, List.set_cons_zero, List.set_cons_succ]
        refine wpAnyH_ready (rs := [2]) (by kernel_rfl) (by simp) ?_
        refine AllReadyH.cons rfl (fun K hK => ?_) AllReadyH.nil
        go_simp
        refine HE.out.mono ?_
        rintro e wE ⟨er, rfl, her, tE⟩
        have sE := SE.out.t.kp
        have fbE := SE.out.box.turned tE (fun e => by have := SE.out.lo _ e; omega)
        have rsE := SE.out.res.turned tE (fun e => by have := SE.out.lo _ e; omega)
        rw [HHH.out] at fbE rsE
        have RSE := Lib.hid rsE
        have TE : Hid (Turned F wr wE) := (Turned.of_keep (F := F) (Keep.refl wr).drew).trans tE (fun i e => Or.inl e)
        have KE : Hid (Keep W wE) := (sE.trans tE (fun i e => Or.inl e)).keep_new (fun i e => by have := SE.out.lo i e; omega)
        have HER := Lib.hid her
        clear her tE sE rsE HE
        refine hK.out _ _ fbE (fun hHeld => ?_)
        clear hK K fbE SE
        try simp only [Act.put, List.getElem_toArray, List.getElem_cons_succ, List.getElem_cons_zero, List.setIfInBounds_toArray, List.set_cons_zero, List.set_cons_succ]
        refine wpAnyH_ready (rs := [3]) (by kernel_rfl) (by simp) ?_
        refine AllReadyH.cons rfl (fun K hK => ?_) AllReadyH.nil
        refine step_store_row rfl 52 (.tmp 2) (.tmp 97) rfl H (frCells (⟨⟨none, 0, 0⟩, ⟨none, 0, 0⟩, ⟨Ar, nk, cr⟩, ⟨none, 0, 0⟩, ⟨none, 0, 0⟩⟩ : FrM) ⟨2, (s : Int), (d : Int), ep, lf, (fl : Int), gn, sq, 0, [], [], rks, 0, [], []⟩) rfl rfl 52 _ RSE.out infoFr rfl (fr_one _ _) ?_
        have fbF : FrBox (wE.setRow H (frCells (⟨⟨none, 0, 0⟩, ⟨none, 0, 0⟩, ⟨Ar, nk, cr⟩, ⟨none, 0, 0⟩, ⟨none, 0, 0⟩⟩ : FrM) ⟨2, (s : Int), (d : Int), ep, lf, (fl : Int), gn, sq, 0, [], [], rks, 0, [], []⟩)) (H + 1) 52 (⟨⟨none, 0, 0⟩, ⟨none, 0, 0⟩, ⟨Ar, nk, cr⟩, ⟨none, 0, 0⟩, ⟨none, 0, 0⟩⟩ : FrM) ⟨2, (s : Int), (d : Int), ep, lf, (fl : Int), gn, sq, 0, [], [], rks, 0, [], []⟩ := FrBox.turned hHeld (turned_row wE H _) (by omega)
        have HF : Hid ((wE.setRow H (frCells (⟨⟨none, 0, 0⟩, ⟨none, 0, 0⟩, ⟨Ar, nk, cr⟩, ⟨none, 0, 0⟩, ⟨none, 0, 0⟩⟩ : FrM) ⟨2, (s : Int), (d : Int), ep, lf, (fl : Int), gn, sq, 0, [], [], rks, 0, [], []⟩)).heap[H]? = some (.cells (frCells (⟨⟨none, 0, 0⟩, ⟨none, 0, 0⟩, ⟨Ar, nk, cr⟩, ⟨none, 0, 0⟩, ⟨none, 0, 0⟩⟩ : FrM) ⟨2, (s : Int), (d : Int), ep, lf, (fl : Int), gn, sq, 0, [], [], rks, 0, [], []⟩) 52 (0, 0))) := setRow_heap _ _ _ _ _ _ RSE.out
        have TF : Hid (Turned (fun b => F b ∨ b = H) wr (wE.setRow H (frCells (⟨⟨none, 0, 0⟩, ⟨none, 0, 0⟩, ⟨Ar, nk, cr⟩, ⟨none, 0, 0⟩, ⟨none, 0, 0⟩⟩ : FrM) ⟨2, (s : Int), (d : Int), ep, lf, (fl : Int), gn, sq, 0, [], [], rks, 0, [], []⟩))) := (Turned.mono TE.out (F' := fun b => F b ∨ b = H) (fun i _ e => Or.inl e)).trans (turned_row wE H _) (fun i e => Or.inl (Or.inr e))
        have KF : Hid (Keep W (wE.setRow H (frCells (⟨⟨none, 0, 0⟩, ⟨none, 0, 0⟩, ⟨Ar, nk, cr⟩, ⟨none, 0, 0⟩, ⟨none, 0, 0⟩⟩ : FrM) ⟨2, (s : Int), (d : Int), ep, lf, (fl : Int), gn, sq, 0, [], [], rks, 0, [], []⟩))) := KE.out.setRow (by have := HHH.out; omega) RSE.out
        refine hK.out _ _ fbF (fun hHeld => ?_)
        clear hK K fbF
        try simp only [Act.put, List.getElem_toArray, List.getElem_cons_succ, List.getElem_cons_zero, List.setIfInBounds_toArray, List.set_cons_zero, List.set_cons_succ]
        refine wpAnyH_ready (rs := [4]) (by kernel_rfl) (by simp) ?_
        refine AllReadyH.cons rfl (fun K hK => ?_) AllReadyH.nil
        go_simp
        refine hK.out _ _ hHeld (fun hHeld => ?_)
        clear hK K
        try simp only [Act.put, List.getElem_toArray, List.getElem_cons_succ, List.getElem_cons_zero, List.setIfInBounds_toArray, List.set_cons_zero, List.set_cons_succ]
        refine wpAnyH_done (by kernel_rfl) ?_ _
        refine NoPanic.normal ?_
        clear hHeld
        go_wp2_with fail
        simp only [gotoQ_ret]
        refine bodyPost_ret (results_cell_two (p := 2) (u := 3) (ty := 52) resRead _ _ H 52 _ (0, 0) _ rfl HF.out Tryz.underlying52 rfl infoFr) rfl ?_
        exact read_told KF.out (fun G w'' kG hG => HCON.out (fun b => (F b ∨ b = H) ∨ G b) w'' ((Turned.mono TF.out (F' := fun b => (F b ∨ b = H) ∨ G b) (fun i _ e => Or.inl e)).trans kG (fun b e => Or.inl (Or.inr e))) (fun b hb => by
          rcases hb with (e | e) | e
          · exact Or.inl e
          · exact Or.inr (by omega)
          · exact Or.inr (by have := hG b e; have := HHH.out; omega))) HER.out HSEM.out
  by_cases hk : k = 3
  · obtain rfl : k = 3 := hk
    have y0 : w_9.cell? ⟨H + 1, 0, none⟩ = some (.int .i64 3) := by
      have := S9.out.box.cell 0 _ rfl
      rw [HHH.out] at this
      exact this
    go_wp2_with fail
    go_step3
    simp only [Exit.inBlock, Exit.then]
    refine gotoQ_goto rfl ?_
    clear y0
    have HC10 := Lib.hid S9.out.t.eight
    have bsq10 := nxt8_lt S9.out.t.rd
    obtain ⟨sq, esq10⟩ : ∃ x, nxtN 8 o7 = x := ⟨_, rfl⟩
    obtain ⟨o10, eo10⟩ : ∃ o, nxtO 8 o7 = o := ⟨_, rfl⟩
    rw [esq10, eo10] at HC10
    rw [esq10] at bsq10
    have HV10 := Lib.hid esq10
    have HO10 := Lib.hid eo10
    clear esq10 eo10
    have cc := S9.out.t.cl
    unfold numF at cc
    go_wp2_with fail
    refine HC10.out.mono ?_
    rintro e w_10 ⟨rfl, n10⟩
    have S10 := Lib.hid (S9.out.next n10)
    clear n10 HC10 S9
    clear cc
    have bx := S10.out.box
    have y7 := bx.cell 7 _ rfl
    have z7 := bx.free 7
    rw [HHH.out] at y7 z7
    clear bx
    have S11 := ((S10.out).set 7 (.int .u64 (sq : Int)) (m' := noM) (f' := ⟨3, (s : Int), (d : Int), ep, lf, 0, 0, sq, 0, [], [], [], 0, [], []⟩) rfl)
    rw [HHH.out] at S11
    obtain ⟨w_11, hw11⟩ : ∃ w, (w_10.setCell ⟨H + 1, 7, none⟩ (.int .u64 (sq : Int))) = w := ⟨_, rfl⟩
    rw [hw11] at S11
    have S11 := Lib.hid S11
    have HW11 := Lib.hid hw11
    clear hw11
    have hw11 := HW11.out
    clear S10
    have y0 : w_11.cell? ⟨H + 1, 0, none⟩ = some (.int .i64 3) := by
      have := S11.out.box.cell 0 _ rfl
      rw [HHH.out] at this
      exact this
    have HC12 := Lib.hid S11.out.t.eight
    have bfo12 := nxt8_lt S11.out.t.rd
    obtain ⟨fo, efo12⟩ : ∃ x, nxtN 8 o10 = x := ⟨_, rfl⟩
    obtain ⟨o12, eo12⟩ : ∃ o, nxtO 8 o10 = o := ⟨_, rfl⟩
    rw [efo12, eo12] at HC12
    rw [efo12] at bfo12
    have HV12 := Lib.hid efo12
    have HO12 := Lib.hid eo12
    clear efo12 eo12
    have cc := S11.out.t.cl
    unfold numF at cc
    go_wp2_with fail
    clear y0 y7 z7 hw11
    refine HC12.out.mono ?_
    rintro e w_12 ⟨rfl, n12⟩
    have S12 := Lib.hid (S11.out.next n12)
    clear n12 HC12 S11
    clear cc
    have bx := S12.out.box
    have y8 := bx.cell 8 _ rfl
    have z8 := bx.free 8
    rw [HHH.out] at y8 z8
    clear bx
    have S13 := ((S12.out).set 8 (.int .u64 (fo : Int)) (m' := noM) (f' := ⟨3, (s : Int), (d : Int), ep, lf, 0, 0, sq, fo, [], [], [], 0, [], []⟩) rfl)
    rw [HHH.out] at S13
    obtain ⟨w_13, hw13⟩ : ∃ w, (w_12.setCell ⟨H + 1, 8, none⟩ (.int .u64 (fo : Int))) = w := ⟨_, rfl⟩
    rw [hw13] at S13
    have S13 := Lib.hid S13
    have HW13 := Lib.hid hw13
    clear hw13
    have hw13 := HW13.out
    clear S12
    go_wp2_with fail
    clear y8 z8 hw13
    go_step3
    simp only [Exit.inBlock, Exit.then]
    refine gotoQ_goto rfl ?_
    have HSEM : Hid (parseF xs = goO o12 (Pa.ret ⟨3, (s : Int), (d : Int), ep, lf, 0, 0, sq, fo, [], [], [], 0, [], []⟩) ∨ (parseF xs = none ∧ ¬ MayF ⟨3, (s : Int), (d : Int), ep, lf, 0, 0, sq, fo, [], [], [], 0, [], []⟩)) := by
      left
      show goO (some xs) parseF = _
      unfold parseF
      rw [go_num, HV1.out, HO1.out, go_num, HV2.out, HO2.out, go_num, HV3.out, HO3.out, go_num, HV6.out, HO6.out, go_num, HV7.out, HO7.out, rest_3]
      unfold credP
      rw [go_num, HV10.out, HO10.out, go_num, HV12.out, HO12.out]
    have HCON : Hid (∀ (G : Nat → Prop) (w' : World), Turned G w_13 w' → (∀ b, G b → F b ∨ b ≤ H) → FrIn w' w'.heap.size noM ⟨3, (s : Int), (d : Int), ep, lf, 0, 0, sq, fo, [], [], [], 0, [], []⟩) := by
      exact fun G w' kG hG => fr_plain w' _ rfl rfl rfl rfl rfl ⟨by unfold I64; dsimp only; omega, by unfold I64; dsimp only; omega, by unfold I64; dsimp only; omega, by unfold I64; dsimp only; omega⟩ ⟨by unfold U64; dsimp only; omega, by unfold U64; dsimp only; omega, by unfold U64; dsimp only; omega, by unfold U64; dsimp only; omega, by unfold U64; dsimp only; omega, by unfold U64; dsimp only; omega⟩
    have SE := Lib.hid (S13.out.keep (Keep.refl w_13).drew)
    have fbx := SE.out.box
    rw [HHH.out] at fbx
    have HE := Lib.hid (rdend_any F N ge gr o12 _ SE.out.t.rd)
    go_wp2_with fail
    refine wp_region_noPanic ?_
    refine wp_region_held_drew (S := fun wz => FrBox wz (H + 1) 52 noM ⟨3, (s : Int), (d : Int), ep, lf, 0, 0, sq, fo, [], [], [], 0, [], []⟩) (by kernel_rfl) fbx (fun hHeld => ?_)
    clear fbx
    refine wpAnyH_take (i := 0) (v := ?_) rfl (by kernel_rfl) (by kernel_rfl) (by kernel_rfl) (fun _ _ _ h => h) (Or.inl ⟨by rfl, ?_⟩) hHeld ?_
    rotate_left
    · intro wq hSw
      obtain ⟨⟨y0, y1, y2, y3, y4⟩, ⟨y5, y6, y7, y8⟩, ⟨y9, y10, y11⟩, y12, y13, y14⟩ := FrBox.cells hSw
      dsimp only [noM] at y0 y1 y2 y3 y4 y5 y6 y7 y8 y9 y10 y11 y12 y13 y14
      go_simp
      all_goals with_reducible rfl
    try simp only [Act.put, List.getElem_toArray, List.getElem_cons_succ, List.getElem_cons_zero, List.setIfInBounds_toArray, List.set_cons_zero, List.set_cons_succ]
    refine wpAnyH_take (i := 1) (v := ?_) rfl (by kernel_rfl) (by kernel_rfl) (by kernel_rfl) (fun _ _ _ h => h) (Or.inl ⟨by rfl, ?_⟩) hHeld ?_
    rotate_left
    · intro wq hSw
      go_simp
      all_goals with_reducible rfl
    try simp only [Act.put, List.getElem_toArray, List.getElem_cons_succ, List.getElem_cons_zero, List.setIfInBounds_toArray, List.set_cons_zero, List.set_cons_succ]
    refine wpAnyH_ready (rs := [2]) (by kernel_rfl) (by simp) ?_
    refine AllReadyH.cons rfl (fun K hK => ?_) AllReadyH.nil
    go_simp
    refine HE.out.mono ?_
    rintro e wE ⟨er, rfl, her, tE⟩
    have sE := SE.out.t.kp
    have fbE := SE.out.box.turned tE (fun e => by have := SE.out.lo _ e; omega)
    have rsE := SE.out.res.turned tE (fun e => by have := SE.out.lo _ e; omega)
    rw [HHH.out] at fbE rsE
    have RSE := Lib.hid rsE
    have TE : Hid (Turned F w_13 wE) := (Turned.of_keep (F := F) (Keep.refl w_13).drew).trans tE (fun i e => Or.inl e)
    have KE : Hid (Keep W wE) := (sE.trans tE (fun i e => Or.inl e)).keep_new (fun i e => by have := SE.out.lo i e; omega)
    have HER := Lib.hid her
    clear her tE sE rsE HE
    refine hK.out _ _ fbE (fun hHeld => ?_)
    clear hK K fbE SE
    try simp only [Act.put, List.getElem_toArray, List.getElem_cons_succ, List.getElem_cons_zero, List.setIfInBounds_toArray, List.set_cons_zero, List.set_cons_succ]
    refine wpAnyH_ready (rs := [3]) (by kernel_rfl) (by simp) ?_
    refine AllReadyH.cons rfl (fun K hK => ?_) AllReadyH.nil
    refine step_store_row rfl 52 (.tmp 2) (.tmp 97) rfl H (frCells noM ⟨3, (s : Int), (d : Int), ep, lf, 0, 0, sq, fo, [], [], [], 0, [], []⟩) rfl rfl 52 _ RSE.out infoFr rfl (fr_one _ _) ?_
    have fbF : FrBox (wE.setRow H (frCells noM ⟨3, (s : Int), (d : Int), ep, lf, 0, 0, sq, fo, [], [], [], 0, [], []⟩)) (H + 1) 52 noM ⟨3, (s : Int), (d : Int), ep, lf, 0, 0, sq, fo, [], [], [], 0, [], []⟩ := FrBox.turned hHeld (turned_row wE H _) (by omega)
    have HF : Hid ((wE.setRow H (frCells noM ⟨3, (s : Int), (d : Int), ep, lf, 0, 0, sq, fo, [], [], [], 0, [], []⟩)).heap[H]? = some (.cells (frCells noM ⟨3, (s : Int), (d : Int), ep, lf, 0, 0, sq, fo, [], [], [], 0, [], []⟩) 52 (0, 0))) := setRow_heap _ _ _ _ _ _ RSE.out
    have TF : Hid (Turned (fun b => F b ∨ b = H) w_13 (wE.setRow H (frCells noM ⟨3, (s : Int), (d : Int), ep, lf, 0, 0, sq, fo, [], [], [], 0, [], []⟩))) := (Turned.mono TE.out (F' := fun b => F b ∨ b = H) (fun i _ e => Or.inl e)).trans (turned_row wE H _) (fun i e => Or.inl (Or.inr e))
    have KF : Hid (Keep W (wE.setRow H (frCells noM ⟨3, (s : Int), (d : Int), ep, lf, 0, 0, sq, fo, [], [], [], 0, [], []⟩))) := KE.out.setRow (by have := HHH.out; omega) RSE.out
    refine hK.out _ _ fbF (fun hHeld => ?_)
    clear hK K fbF
    try simp only [Act.put, List.getElem_toArray, List.getElem_cons_succ, List.getElem_cons_zero, List.setIfInBounds_toArray, List.set_cons_zero, List.set_cons_succ]
    refine wpAnyH_ready (rs := [4]) (by kernel_rfl) (by simp) ?_
    refine AllReadyH.cons rfl (fun K hK => ?_) AllReadyH.nil
    go_simp
    refine hK.out _ _ hHeld (fun hHeld => ?_)
    clear hK K
    try simp only [Act.put, List.getElem_toArray, List.getElem_cons_succ, List.getElem_cons_zero, List.setIfInBounds_toArray, List.set_cons_zero, List.set_cons_succ]
    refine wpAnyH_done (by kernel_rfl) ?_ _
    refine NoPanic.normal ?_
    clear hHeld
    go_wp2_with fail
    simp only [gotoQ_ret]
    refine bodyPost_ret (results_cell_two (p := 2) (u := 3) (ty := 52) resRead _ _ H 52 _ (0, 0) _ rfl HF.out Tryz.underlying52 rfl infoFr) rfl ?_
    exact read_told KF.out (fun G w'' kG hG => HCON.out (fun b => (F b ∨ b = H) ∨ G b) w'' ((Turned.mono TF.out (F' := fun b => (F b ∨ b = H) ∨ G b) (fun i _ e => Or.inl e)).trans kG (fun b e => Or.inl (Or.inr e))) (fun b hb => by
      rcases hb with (e | e) | e
      · exact Or.inl e
      · exact Or.inr (by omega)
      · exact Or.inr (by have := hG b e; have := HHH.out; omega))) HER.out HSEM.out
  by_cases hk : k = 4
  · obtain rfl : k = 4 := hk
    have y0 : w_9.cell? ⟨H + 1, 0, none⟩ = some (.int .i64 4) := by
      have := S9.out.box.cell 0 _ rfl
      rw [HHH.out] at this
      exact this
    go_wp2_with fail
    go_step3
    simp only [Exit.inBlock, Exit.then]
    refine gotoQ_goto rfl ?_
    clear y0
    have HC10 := Lib.hid S9.out.t.eight
    have bsq10 := nxt8_lt S9.out.t.rd
    obtain ⟨sq, esq10⟩ : ∃ x, nxtN 8 o7 = x := ⟨_, rfl⟩
    obtain ⟨o10, eo10⟩ : ∃ o, nxtO 8 o7 = o := ⟨_, rfl⟩
    rw [esq10, eo10] at HC10
    rw [esq10] at bsq10
    have HV10 := Lib.hid esq10
    have HO10 := Lib.hid eo10
    clear esq10 eo10
    have cc := S9.out.t.cl
    unfold numF at cc
    go_wp2_with fail
    refine HC10.out.mono ?_
    rintro e w_10 ⟨rfl, n10⟩
    have S10 := Lib.hid (S9.out.next n10)
    clear n10 HC10 S9
    clear cc
    have bx := S10.out.box
    have y7 := bx.cell 7 _ rfl
    have z7 := bx.free 7
    rw [HHH.out] at y7 z7
    clear bx
    have S11 := ((S10.out).set 7 (.int .u64 (sq : Int)) (m' := noM) (f' := ⟨4, (s : Int), (d : Int), ep, lf, 0, 0, sq, 0, [], [], [], 0, [], []⟩) rfl)
    rw [HHH.out] at S11
    obtain ⟨w_11, hw11⟩ : ∃ w, (w_10.setCell ⟨H + 1, 7, none⟩ (.int .u64 (sq : Int))) = w := ⟨_, rfl⟩
    rw [hw11] at S11
    have S11 := Lib.hid S11
    have HW11 := Lib.hid hw11
    clear hw11
    have hw11 := HW11.out
    clear S10
    have y0 : w_11.cell? ⟨H + 1, 0, none⟩ = some (.int .i64 4) := by
      have := S11.out.box.cell 0 _ rfl
      rw [HHH.out] at this
      exact this
    go_wp2_with fail
    clear y0 y7 z7 hw11
    go_step3
    simp only [Exit.inBlock, Exit.then]
    refine gotoQ_goto rfl ?_
    have HSEM : Hid (parseF xs = goO o10 (Pa.ret ⟨4, (s : Int), (d : Int), ep, lf, 0, 0, sq, 0, [], [], [], 0, [], []⟩) ∨ (parseF xs = none ∧ ¬ MayF ⟨4, (s : Int), (d : Int), ep, lf, 0, 0, sq, 0, [], [], [], 0, [], []⟩)) := by
      left
      show goO (some xs) parseF = _
      unfold parseF
      rw [go_num, HV1.out, HO1.out, go_num, HV2.out, HO2.out, go_num, HV3.out, HO3.out, go_num, HV6.out, HO6.out, go_num, HV7.out, HO7.out, rest_4]
      unfold probP
      rw [go_num, HV10.out, HO10.out]
    have HCON : Hid (∀ (G : Nat → Prop) (w' : World), Turned G w_11 w' → (∀ b, G b → F b ∨ b ≤ H) → FrIn w' w'.heap.size noM ⟨4, (s : Int), (d : Int), ep, lf, 0, 0, sq, 0, [], [], [], 0, [], []⟩) := by
      exact fun G w' kG hG => fr_plain w' _ rfl rfl rfl rfl rfl ⟨by unfold I64; dsimp only; omega, by unfold I64; dsimp only; omega, by unfold I64; dsimp only; omega, by unfold I64; dsimp only; omega⟩ ⟨by unfold U64; dsimp only; omega, by unfold U64; dsimp only; omega, by unfold U64; dsimp only; omega, by unfold U64; dsimp only; omega, by unfold U64; dsimp only; omega, by unfold U64; dsimp only; omega⟩
    have SE := Lib.hid (S11.out.keep (Keep.refl w_11).drew)
    have fbx := SE.out.box
    rw [HHH.out] at fbx
    have HE := Lib.hid (rdend_any F N ge gr o10 _ SE.out.t.rd)
    go_wp2_with fail
    refine wp_region_noPanic ?_
    refine wp_region_held_drew (S := fun wz => FrBox wz (H + 1) 52 noM ⟨4, (s : Int), (d : Int), ep, lf, 0, 0, sq, 0, [], [], [], 0, [], []⟩) (by kernel_rfl) fbx (fun hHeld => ?_)
    clear fbx
    refine wpAnyH_take (i := 0) (v := ?_) rfl (by kernel_rfl) (by kernel_rfl) (by kernel_rfl) (fun _ _ _ h => h) (Or.inl ⟨by rfl, ?_⟩) hHeld ?_
    rotate_left
    · intro wq hSw
      obtain ⟨⟨y0, y1, y2, y3, y4⟩, ⟨y5, y6, y7, y8⟩, ⟨y9, y10, y11⟩, y12, y13, y14⟩ := FrBox.cells hSw
      dsimp only [noM] at y0 y1 y2 y3 y4 y5 y6 y7 y8 y9 y10 y11 y12 y13 y14
      go_simp
      all_goals with_reducible rfl
    try simp only [Act.put, List.getElem_toArray, List.getElem_cons_succ, List.getElem_cons_zero, List.setIfInBounds_toArray, List.set_cons_zero, List.set_cons_succ]
    refine wpAnyH_take (i := 1) (v := ?_) rfl (by kernel_rfl) (by kernel_rfl) (by kernel_rfl) (fun _ _ _ h => h) (Or.inl ⟨by rfl, ?_⟩) hHeld ?_
    rotate_left
    · intro wq hSw
      go_simp
      all_goals with_reducible rfl
    try simp only [Act.put, List.getElem_toArray, List.getElem_cons_succ, List.getElem_cons_zero, List.setIfInBounds_toArray, List.set_cons_zero, List.set_cons_succ]
    refine wpAnyH_ready (rs := [2]) (by kernel_rfl) (by simp) ?_
    refine AllReadyH.cons rfl (fun K hK => ?_) AllReadyH.nil
    go_simp
    refine HE.out.mono ?_
    rintro e wE ⟨er, rfl, her, tE⟩
    have sE := SE.out.t.kp
    have fbE := SE.out.box.turned tE (fun e => by have := SE.out.lo _ e; omega)
    have rsE := SE.out.res.turned tE (fun e => by have := SE.out.lo _ e; omega)
    rw [HHH.out] at fbE rsE
    have RSE := Lib.hid rsE
    have TE : Hid (Turned F w_11 wE) := (Turned.of_keep (F := F) (Keep.refl w_11).drew).trans tE (fun i e => Or.inl e)
    have KE : Hid (Keep W wE) := (sE.trans tE (fun i e => Or.inl e)).keep_new (fun i e => by have := SE.out.lo i e; omega)
    have HER := Lib.hid her
    clear her tE sE rsE HE
    refine hK.out _ _ fbE (fun hHeld => ?_)
    clear hK K fbE SE
    try simp only [Act.put, List.getElem_toArray, List.getElem_cons_succ, List.getElem_cons_zero, List.setIfInBounds_toArray, List.set_cons_zero, List.set_cons_succ]
    refine wpAnyH_ready (rs := [3]) (by kernel_rfl) (by simp) ?_
    refine AllReadyH.cons rfl (fun K hK => ?_) AllReadyH.nil
    refine step_store_row rfl 52 (.tmp 2) (.tmp 97) rfl H (frCells noM ⟨4, (s : Int), (d : Int), ep, lf, 0, 0, sq, 0, [], [], [], 0, [], []⟩) rfl rfl 52 _ RSE.out infoFr rfl (fr_one _ _) ?_
    have fbF : FrBox (wE.setRow H (frCells noM ⟨4, (s : Int), (d : Int), ep, lf, 0, 0, sq, 0, [], [], [], 0, [], []⟩)) (H + 1) 52 noM ⟨4, (s : Int), (d : Int), ep, lf, 0, 0, sq, 0, [], [], [], 0, [], []⟩ := FrBox.turned hHeld (turned_row wE H _) (by omega)
    have HF : Hid ((wE.setRow H (frCells noM ⟨4, (s : Int), (d : Int), ep, lf, 0, 0, sq, 0, [], [], [], 0, [], []⟩)).heap[H]? = some (.cells (frCells noM ⟨4, (s : Int), (d : Int), ep, lf, 0, 0, sq, 0, [], [], [], 0, [], []⟩) 52 (0, 0))) := setRow_heap _ _ _ _ _ _ RSE.out
    have TF : Hid (Turned (fun b => F b ∨ b = H) w_11 (wE.setRow H (frCells noM ⟨4, (s : Int), (d : Int), ep, lf, 0, 0, sq, 0, [], [], [], 0, [], []⟩))) := (Turned.mono TE.out (F' := fun b => F b ∨ b = H) (fun i _ e => Or.inl e)).trans (turned_row wE H _) (fun i e => Or.inl (Or.inr e))
    have KF : Hid (Keep W (wE.setRow H (frCells noM ⟨4, (s : Int), (d : Int), ep, lf, 0, 0, sq, 0, [], [], [], 0, [], []⟩))) := KE.out.setRow (by have := HHH.out; omega) RSE.out
    refine hK.out _ _ fbF (fun hHeld => ?_)
    clear hK K fbF
    try simp only [Act.put, List.getElem_toArray, List.getElem_cons_succ, List.getElem_cons_zero, List.setIfInBounds_toArray, List.set_cons_zero, List.set_cons_succ]
    refine wpAnyH_ready (rs := [4]) (by kernel_rfl) (by simp) ?_
    refine AllReadyH.cons rfl (fun K hK => ?_) AllReadyH.nil
    go_simp
    refine hK.out _ _ hHeld (fun hHeld => ?_)
    clear hK K
    try simp only [Act.put, List.getElem_toArray, List.getElem_cons_succ, List.getElem_cons_zero, List.setIfInBounds_toArray, List.set_cons_zero, List.set_cons_succ]
    refine wpAnyH_done (by kernel_rfl) ?_ _
    refine NoPanic.normal ?_
    clear hHeld
    go_wp2_with fail
    simp only [gotoQ_ret]
    refine bodyPost_ret (results_cell_two (p := 2) (u := 3) (ty := 52) resRead _ _ H 52 _ (0, 0) _ rfl HF.out Tryz.underlying52 rfl infoFr) rfl ?_
    exact read_told KF.out (fun G w'' kG hG => HCON.out (fun b => (F b ∨ b = H) ∨ G b) w'' ((Turned.mono TF.out (F' := fun b => (F b ∨ b = H) ∨ G b) (fun i _ e => Or.inl e)).trans kG (fun b e => Or.inl (Or.inr e))) (fun b hb => by
      rcases hb with (e | e) | e
      · exact Or.inl e
      · exact Or.inr (by omega)
      · exact Or.inr (by have := hG b e; have := HHH.out; omega))) HER.out HSEM.out
  by_cases hk : k = 5
  · obtain rfl : k = 5 := hk
    have y0 : w_9.cell? ⟨H + 1, 0, none⟩ = some (.int .i64 5) := by
      have := S9.out.box.cell 0 _ rfl
      rw [HHH.out] at this
      exact this
    go_wp2_with fail
    go_step3
    simp only [Exit.inBlock, Exit.then]
    refine gotoQ_goto rfl ?_
    clear y0
    have HRT := Lib.hid (readtopo_any F N ge gr o7 w_9 S9.out.t.rd S9.out.t.ng)
    have HWS : Hid (H + 1 < w_9.heap.size ∧ ∀ b, F b → b < w_9.heap.size) := by
      have h1 := S9.out.t.size
      have h2 := S9.out.gr2
      have h3 := S9.out.t.ng
      have h4 := HHH.out
      exact ⟨by omega, fun b hb => by have := S9.out.t.rd.2.1 b hb; omega⟩
    simp only [numF, takF] at HRT
    have cc := S9.out.t.cl
    unfold numF at cc
    go_wp2_with fail
    refine HRT.out.mono ?_
    rintro e wT ⟨te, uu, hh, up, hp, oT, rfl, hcon, oku, okh, hte, hed, rT, tT, hsem⟩
    have ST := Lib.hid (S9.out.next ⟨rT, tT⟩)
    have HCONT := Lib.hid hcon
    have HSEMT := Lib.hid hsem
    have HOKS := Lib.hid (And.intro oku okh)
    have HTEE := Lib.hid hte
    have HEDD := Lib.hid hed
    clear rT tT hsem hcon oku okh hte hed HRT cc S9
    obtain ⟨Au, nu, cu⟩ := uu
    obtain ⟨Ah, nh, ch⟩ := hh
    simp only [topoCells]
    have bx := ST.out.box
    have y12 := bx.cell 12 _ rfl
    have z12 := bx.free 12
    have y13 := bx.cell 13 _ rfl
    have z13 := bx.free 13
    have y14 := bx.cell 14 _ rfl
    have z14 := bx.free 14
    rw [HHH.out] at y12 z12 y13 z13 y14 z14
    clear bx
    have S10 := ((((((ST.out).set 12 (.int .u64 (te : Int)) (m' := noM) (f' := ⟨5, (s : Int), (d : Int), ep, lf, 0, 0, 0, 0, [], [], [], te, [], []⟩) rfl)).set 13 (.slice Au nu cu) (m' := (⟨⟨none, 0, 0⟩, ⟨none, 0, 0⟩, ⟨none, 0, 0⟩, ⟨Au, nu, cu⟩, ⟨none, 0, 0⟩⟩ : FrM)) (f' := ⟨5, (s : Int), (d : Int), ep, lf, 0, 0, 0, 0, [], [], [], te, up, []⟩) rfl)).set 14 (.slice Ah nh ch) (m' := (⟨⟨none, 0, 0⟩, ⟨none, 0, 0⟩, ⟨none, 0, 0⟩, ⟨Au, nu, cu⟩, ⟨Ah, nh, ch⟩⟩ : FrM)) (f' := ⟨5, (s : Int), (d : Int), ep, lf, 0, 0, 0, 0, [], [], [], te, up, hp⟩) rfl)
    rw [HHH.out] at S10
    obtain ⟨w_10, hw10⟩ : ∃ w, (((wT.setCell ⟨H + 1, 12, none⟩ (.int .u64 (te : Int))).setCell ⟨H + 1, 13, none⟩ (.slice Au nu cu)).setCell ⟨H + 1, 14, none⟩ (.slice Ah nh ch)) = w := ⟨_, rfl⟩
    rw [hw10] at S10
    have S10 := Lib.hid S10
    have HW10 := Lib.hid hw10
    clear hw10
    have TKT : Turned (fun b => b = H + 1) wT (((wT.setCell ⟨H + 1, 12, none⟩ (.int .u64 (te : Int))).setCell ⟨H + 1, 13, none⟩ (.slice Au nu cu)).setCell ⟨H + 1, 14, none⟩ (.slice Ah nh ch)) := ((Turned.set (F := fun b => b = H + 1) _ _ _ rfl).trans (Turned.set (F := fun b => b = H + 1) _ _ _ rfl) (fun b e => Or.inl e)).trans (Turned.set (F := fun b => b = H + 1) _ _ _ rfl) (fun b e => Or.inl e)
    rw [HW10.out] at TKT
    have TKT := Lib.hid TKT
    have hw10 := HW10.out
    clear ST
    go_wp2_with fail
    go_step3
    clear y12 z12 y13 z13 y14 z14 hw10
    have HSEM : Hid (parseF xs = goO oT (Pa.ret ⟨5, (s : Int), (d : Int), ep, lf, 0, 0, 0, 0, [], [], [], te, up, hp⟩) ∨ (parseF xs = none ∧ ¬ MayF ⟨5, (s : Int), (d : Int), ep, lf, 0, 0, 0, 0, [], [], [], te, up, hp⟩)) := by
      have e0 : parseF xs = goO o7 (topoP s d ep lf) := by
        show goO (some xs) parseF = _
        unfold parseF
        rw [go_num, HV1.out, HO1.out, go_num, HV2.out, HO2.out, go_num, HV3.out, HO3.out, go_num, HV6.out, HO6.out, go_num, HV7.out, HO7.out, rest_5]
      rw [topo_q] at e0
      rcases HSEMT.out with q | ⟨q1, q2⟩
      · left
        rw [e0, q]
      · right
        exact ⟨by rw [e0, q2], fun hm => by
          have h1 := (hm.member rfl).2.2.1
          dsimp only at h1
          omega⟩
    have HCON : Hid (∀ (G : Nat → Prop) (w' : World), Turned G w_10 w' → (∀ b, G b → F b ∨ b ≤ H) → FrIn w' w'.heap.size (⟨⟨none, 0, 0⟩, ⟨none, 0, 0⟩, ⟨none, 0, 0⟩, ⟨Au, nu, cu⟩, ⟨Ah, nh, ch⟩⟩ : FrM) ⟨5, (s : Int), (d : Int), ep, lf, 0, 0, 0, 0, [], [], [], te, up, hp⟩) := by
      intro G w' kG hG
      obtain ⟨q1, q2⟩ := HCONT.out (fun b => G b ∨ b = H + 1) w' ((Turned.mono TKT.out (F' := fun b => G b ∨ b = H + 1) (fun i _ e => Or.inr e)).trans kG (fun b e => Or.inl (Or.inl e))) (fun b hb => by
        rcases hb with e | e
        · rcases hG b e with e | e
          · exact HWS.out.2 b e
          · have := HWS.out.1; omega
        · have := HWS.out.1; omega)
      have hte := HTEE.out
      unfold U64 at hte
      exact ⟨Bytes.nil _ _ _, Bytes.nil _ _ _, RanksAt.none_ _ _ _, q1, q2, ⟨by simp [SlV.ok], by simp [SlV.ok], by simp [SlV.ok], HOKS.out.1, HOKS.out.2⟩, ⟨by unfold I64; dsimp only; omega, by unfold I64; dsimp only; omega, by unfold I64; dsimp only; omega, by unfold I64; dsimp only; omega⟩, ⟨by unfold U64; dsimp only; omega, by unfold U64; dsimp only; omega, by unfold U64; dsimp only; omega, by unfold U64; dsimp only; omega, by unfold U64; dsimp only; omega, by unfold U64; dsimp only; omega⟩, fun r hr => by simp at hr, HEDD.out⟩
    have SE := Lib.hid (S10.out.keep (Keep.refl w_10).drew)
    have fbx := SE.out.box
    rw [HHH.out] at fbx
    have HE := Lib.hid (rdend_any F N ge gr oT _ SE.out.t.rd)
    go_wp2_with fail
    refine wp_region_noPanic ?_
    refine wp_region_held_drew (S := fun wz => FrBox wz (H + 1) 52 (⟨⟨none, 0, 0⟩, ⟨none, 0, 0⟩, ⟨none, 0, 0⟩, ⟨Au, nu, cu⟩, ⟨Ah, nh, ch⟩⟩ : FrM) ⟨5, (s : Int), (d : Int), ep, lf, 0, 0, 0, 0, [], [], [], te, up, hp⟩) (by kernel_rfl) fbx (fun hHeld => ?_)
    clear fbx
    refine wpAnyH_take (i := 0) (v := ?_) rfl (by kernel_rfl) (by kernel_rfl) (by kernel_rfl) (fun _ _ _ h => h) (Or.inl ⟨by rfl, ?_⟩) hHeld ?_
    rotate_left
    · intro wq hSw
      obtain ⟨⟨y0, y1, y2, y3, y4⟩, ⟨y5, y6, y7, y8⟩, ⟨y9, y10, y11⟩, y12, y13, y14⟩ := FrBox.cells hSw
      dsimp only [noM] at y0 y1 y2 y3 y4 y5 y6 y7 y8 y9 y10 y11 y12 y13 y14
      go_simp
      all_goals with_reducible rfl
    try simp only [Act.put, List.getElem_toArray, List.getElem_cons_succ, List.getElem_cons_zero, List.setIfInBounds_toArray, List.set_cons_zero, List.set_cons_succ]
    refine wpAnyH_take (i := 1) (v := ?_) rfl (by kernel_rfl) (by kernel_rfl) (by kernel_rfl) (fun _ _ _ h => h) (Or.inl ⟨by rfl, ?_⟩) hHeld ?_
    rotate_left
    · intro wq hSw
      go_simp
      all_goals with_reducible rfl
    try simp only [Act.put, List.getElem_toArray, List.getElem_cons_succ, List.getElem_cons_zero, List.setIfInBounds_toArray, List.set_cons_zero, List.set_cons_succ]
    refine wpAnyH_ready (rs := [2]) (by kernel_rfl) (by simp) ?_
    refine AllReadyH.cons rfl (fun K hK => ?_) AllReadyH.nil
    go_simp
    refine HE.out.mono ?_
    rintro e wE ⟨er, rfl, her, tE⟩
    have sE := SE.out.t.kp
    have fbE := SE.out.box.turned tE (fun e => by have := SE.out.lo _ e; omega)
    have rsE := SE.out.res.turned tE (fun e => by have := SE.out.lo _ e; omega)
    rw [HHH.out] at fbE rsE
    have RSE := Lib.hid rsE
    have TE : Hid (Turned F w_10 wE) := (Turned.of_keep (F := F) (Keep.refl w_10).drew).trans tE (fun i e => Or.inl e)
    have KE : Hid (Keep W wE) := (sE.trans tE (fun i e => Or.inl e)).keep_new (fun i e => by have := SE.out.lo i e; omega)
    have HER := Lib.hid her
    clear her tE sE rsE HE
    refine hK.out _ _ fbE (fun hHeld => ?_)
    clear hK K fbE SE
    try simp only [Act.put, List.getElem_toArray, List.getElem_cons_succ, List.getElem_cons_zero, List.setIfInBounds_toArray, List.set_cons_zero, List.set_cons_succ]
    refine wpAnyH_ready (rs := [3]) (by kernel_rfl) (by simp) ?_
    refine AllReadyH.cons rfl (fun K hK => ?_) AllReadyH.nil
    refine step_store_row rfl 52 (.tmp 2) (.tmp 97) rfl H (frCells (⟨⟨none, 0, 0⟩, ⟨none, 0, 0⟩, ⟨none, 0, 0⟩, ⟨Au, nu, cu⟩, ⟨Ah, nh, ch⟩⟩ : FrM) ⟨5, (s : Int), (d : Int), ep, lf, 0, 0, 0, 0, [], [], [], te, up, hp⟩) rfl rfl 52 _ RSE.out infoFr rfl (fr_one _ _) ?_
    have fbF : FrBox (wE.setRow H (frCells (⟨⟨none, 0, 0⟩, ⟨none, 0, 0⟩, ⟨none, 0, 0⟩, ⟨Au, nu, cu⟩, ⟨Ah, nh, ch⟩⟩ : FrM) ⟨5, (s : Int), (d : Int), ep, lf, 0, 0, 0, 0, [], [], [], te, up, hp⟩)) (H + 1) 52 (⟨⟨none, 0, 0⟩, ⟨none, 0, 0⟩, ⟨none, 0, 0⟩, ⟨Au, nu, cu⟩, ⟨Ah, nh, ch⟩⟩ : FrM) ⟨5, (s : Int), (d : Int), ep, lf, 0, 0, 0, 0, [], [], [], te, up, hp⟩ := FrBox.turned hHeld (turned_row wE H _) (by omega)
    have HF : Hid ((wE.setRow H (frCells (⟨⟨none, 0, 0⟩, ⟨none, 0, 0⟩, ⟨none, 0, 0⟩, ⟨Au, nu, cu⟩, ⟨Ah, nh, ch⟩⟩ : FrM) ⟨5, (s : Int), (d : Int), ep, lf, 0, 0, 0, 0, [], [], [], te, up, hp⟩)).heap[H]? = some (.cells (frCells (⟨⟨none, 0, 0⟩, ⟨none, 0, 0⟩, ⟨none, 0, 0⟩, ⟨Au, nu, cu⟩, ⟨Ah, nh, ch⟩⟩ : FrM) ⟨5, (s : Int), (d : Int), ep, lf, 0, 0, 0, 0, [], [], [], te, up, hp⟩) 52 (0, 0))) := setRow_heap _ _ _ _ _ _ RSE.out
    have TF : Hid (Turned (fun b => F b ∨ b = H) w_10 (wE.setRow H (frCells (⟨⟨none, 0, 0⟩, ⟨none, 0, 0⟩, ⟨none, 0, 0⟩, ⟨Au, nu, cu⟩, ⟨Ah, nh, ch⟩⟩ : FrM) ⟨5, (s : Int), (d : Int), ep, lf, 0, 0, 0, 0, [], [], [], te, up, hp⟩))) := (Turned.mono TE.out (F' := fun b => F b ∨ b = H) (fun i _ e => Or.inl e)).trans (turned_row wE H _) (fun i e => Or.inl (Or.inr e))
    have KF : Hid (Keep W (wE.setRow H (frCells (⟨⟨none, 0, 0⟩, ⟨none, 0, 0⟩, ⟨none, 0, 0⟩, ⟨Au, nu, cu⟩, ⟨Ah, nh, ch⟩⟩ : FrM) ⟨5, (s : Int), (d : Int), ep, lf, 0, 0, 0, 0, [], [], [], te, up, hp⟩))) := KE.out.setRow (by have := HHH.out; omega) RSE.out
    refine hK.out _ _ fbF (fun hHeld => ?_)
    clear hK K fbF
    try simp only [Act.put, List.getElem_toArray, List.getElem_cons_succ, List.getElem_cons_zero, List.setIfInBounds_toArray, List.set_cons_zero, List.set_cons_succ]
    refine wpAnyH_ready (rs := [4]) (by kernel_rfl) (by simp) ?_
    refine AllReadyH.cons rfl (fun K hK => ?_) AllReadyH.nil
    go_simp
    refine hK.out _ _ hHeld (fun hHeld => ?_)
    clear hK K
    try simp only [Act.put, List.getElem_toArray, List.getElem_cons_succ, List.getElem_cons_zero, List.setIfInBounds_toArray, List.set_cons_zero, List.set_cons_succ]
    refine wpAnyH_done (by kernel_rfl) ?_ _
    refine NoPanic.normal ?_
    clear hHeld
    go_wp2_with fail
    simp only [gotoQ_ret]
    refine bodyPost_ret (results_cell_two (p := 2) (u := 3) (ty := 52) resRead _ _ H 52 _ (0, 0) _ rfl HF.out Tryz.underlying52 rfl infoFr) rfl ?_
    exact read_told KF.out (fun G w'' kG hG => HCON.out (fun b => (F b ∨ b = H) ∨ G b) w'' ((Turned.mono TF.out (F' := fun b => (F b ∨ b = H) ∨ G b) (fun i _ e => Or.inl e)).trans kG (fun b e => Or.inl (Or.inr e))) (fun b hb => by
      rcases hb with (e | e) | e
      · exact Or.inl e
      · exact Or.inr (by omega)
      · exact Or.inr (by have := hG b e; have := HHH.out; omega))) HER.out HSEM.out
  by_cases hk : k = 6
  · obtain rfl : k = 6 := hk
    have y0 : w_9.cell? ⟨H + 1, 0, none⟩ = some (.int .i64 6) := by
      have := S9.out.box.cell 0 _ rfl
      rw [HHH.out] at this
      exact this
    go_wp2_with fail
    go_step3
    simp only [Exit.inBlock, Exit.then]
    refine gotoQ_goto rfl ?_
    clear y0
    go_wp2_with fail
    have c0 := S9.out.t.cl
    unfold numF at c0
    refine wp_region_noPanic ?_
    refine wp_region_held_drew (S := fun wz => wz.cell? ⟨N, 0, none⟩ = some (.func (.func 109) #[] #[.pointer (some ⟨ge, 0, none⟩), .pointer (some ⟨gr, 0, none⟩)])) (by kernel_rfl) c0 (fun hHeld => ?_)
    clear c0
    have S10 := Lib.hid (S9.out.keep (Keep.refl w_9).drew)
    clear S9
    have HC11 := Lib.hid S10.out.t.one
    have bfl11 := nxt1_lt S10.out.t.rd
    obtain ⟨fl, efl11⟩ : ∃ x, nxtN 1 o7 = x := ⟨_, rfl⟩
    obtain ⟨o11, eo11⟩ : ∃ o, nxtO 1 o7 = o := ⟨_, rfl⟩
    rw [efl11, eo11] at HC11
    rw [efl11] at bfl11
    have HV11 := Lib.hid efl11
    have HO11 := Lib.hid eo11
    clear efl11 eo11
    refine wpAnyH_take (i := 0) (v := ?_) rfl (by kernel_rfl) (by kernel_rfl) (by kernel_rfl) (fun _ _ _ h => h) (Or.inl ⟨by rfl, ?_⟩) hHeld ?_
    rotate_left
    · intro wq hSw
      go_simp
      all_goals with_reducible rfl
    try simp only [Act.put, List.getElem_toArray, List.getElem_cons_succ, List.getElem_cons_zero, List.setIfInBounds_toArray, List.set_cons_zero, List.set_cons_succ]
    refine wpAnyH_take (i := 2) (v := ?_) rfl (by kernel_rfl) (by kernel_rfl) (by kernel_rfl) (fun _ _ _ h => h) (Or.inl ⟨by rfl, ?_⟩) hHeld ?_
    rotate_left
    · intro wq hSw
      go_simp
      all_goals with_reducible rfl
    try simp only [Act.put, List.getElem_toArray, List.getElem_cons_succ, List.getElem_cons_zero, List.setIfInBounds_toArray, List.set_cons_zero, List.set_cons_succ]
    refine wpAnyH_ready (rs := [1]) (by kernel_rfl) (by simp) ?_
    refine AllReadyH.cons rfl (fun K hK => ?_) AllReadyH.nil
    go_simp
    refine HC11.out.mono ?_
    rintro e w_11 ⟨rfl, n11⟩
    have S11 := Lib.hid (S10.out.next n11)
    clear n11 HC11 S10
    have c1 := S11.out.t.cl
    unfold numF at c1
    refine hK.out _ _ c1 (fun hHeld => ?_)
    clear hK K c1
    try simp only [Act.put, List.getElem_toArray, List.getElem_cons_succ, List.getElem_cons_zero, List.setIfInBounds_toArray, List.set_cons_zero, List.set_cons_succ]
    have HC12 := Lib.hid S11.out.t.eight
    have bgn12 := nxt8_lt S11.out.t.rd
    obtain ⟨gn, egn12⟩ : ∃ x, nxtN 8 o11 = x := ⟨_, rfl⟩
    obtain ⟨o12, eo12⟩ : ∃ o, nxtO 8 o11 = o := ⟨_, rfl⟩
    rw [egn12, eo12] at HC12
    rw [egn12] at bgn12
    have HV12 := Lib.hid egn12
    have HO12 := Lib.hid eo12
    clear egn12 eo12
    refine wpAnyH_take (i := 4) (v := ?_) rfl (by kernel_rfl) (by kernel_rfl) (by kernel_rfl) (fun _ _ _ h => h) (Or.inl ⟨by rfl, ?_⟩) hHeld ?_
    rotate_left
    · intro wq hSw
      go_simp
      all_goals with_reducible rfl
    try simp only [Act.put, List.getElem_toArray, List.getElem_cons_succ, List.getElem_cons_zero, List.setIfInBounds_toArray, List.set_cons_zero, List.set_cons_succ]
    refine wpAnyH_ready (rs := [3]) (by kernel_rfl) (by simp) ?_
    refine AllReadyH.cons rfl (fun K hK => ?_) AllReadyH.nil
    go_simp
    refine HC12.out.mono ?_
    rintro e w_12 ⟨rfl, n12⟩
    have S12 := Lib.hid (S11.out.next n12)
    clear n12 HC12 S11
    have c2 := S12.out.t.cl
    unfold numF at c2
    refine hK.out _ _ c2 (fun hHeld => ?_)
    clear hK K c2
    try simp only [Act.put, List.getElem_toArray, List.getElem_cons_succ, List.getElem_cons_zero, List.setIfInBounds_toArray, List.set_cons_zero, List.set_cons_succ]
    have bx := S12.out.box
    have y5 := bx.cell 5 _ rfl
    have z5 := bx.free 5
    rw [HHH.out] at y5 z5
    clear bx
    have S13 := ((S12.out).set 5 (.int .i64 (fl : Int)) (m' := noM) (f' := ⟨6, (s : Int), (d : Int), ep, lf, (fl : Int), 0, 0, 0, [], [], [], 0, [], []⟩) rfl)
    rw [HHH.out] at S13
    obtain ⟨w_13, hw13⟩ : ∃ w, (w_12.setCell ⟨H + 1, 5, none⟩ (.int .i64 (fl : Int))) = w := ⟨_, rfl⟩
    rw [hw13] at S13
    have S13 := Lib.hid S13
    have HW13 := Lib.hid hw13
    clear hw13
    refine wpAnyH_ready (rs := [5]) (by kernel_rfl) (by simp) ?_
    refine AllReadyH.cons rfl (fun K hK => ?_) AllReadyH.nil
    go_simp
    rw [HW13.out]
    clear y5 z5
    clear S12
    have c3 := S13.out.t.cl
    unfold numF at c3
    refine hK.out _ _ c3 (fun hHeld => ?_)
    clear hK K c3
    try simp only [Act.put, List.getElem_toArray, List.getElem_cons_succ, List.getElem_cons_zero, List.setIfInBounds_toArray, List.set_cons_zero, List.set_cons_succ]
    refine wpAnyH_take (i := 6) (v := ?_) rfl (by kernel_rfl) (by kernel_rfl) (by kernel_rfl) (fun _ _ _ h => h) (Or.inl ⟨by rfl, ?_⟩) hHeld ?_
    rotate_left
    · intro wq hSw
      go_simp
      all_goals with_reducible rfl
    try simp only [Act.put, List.getElem_toArray, List.getElem_cons_succ, List.getElem_cons_zero, List.setIfInBounds_toArray, List.set_cons_zero, List.set_cons_succ]
    have bx := S13.out.box
    have y6 := bx.cell 6 _ rfl
    have z6 := bx.free 6
    rw [HHH.out] at y6 z6
    clear bx
    have S14 := ((S13.out).set 6 (.int .u64 (gn : Int)) (m' := noM) (f' := ⟨6, (s : Int), (d : Int), ep, lf, (fl : Int), gn, 0, 0, [], [], [], 0, [], []⟩) rfl)
    rw [HHH.out] at S14
    obtain ⟨w_14, hw14⟩ : ∃ w, (w_13.setCell ⟨H + 1, 6, none⟩ (.int .u64 (gn : Int))) = w := ⟨_, rfl⟩
    rw [hw14] at S14
    have S14 := Lib.hid S14
    have HW14 := Lib.hid hw14
    clear hw14
    refine wpAnyH_ready (rs := [7]) (by kernel_rfl) (by simp) ?_
    refine AllReadyH.cons rfl (fun K hK => ?_) AllReadyH.nil
    go_simp
    rw [HW14.out]
    clear y6 z6
    clear S13
    have c3 := S14.out.t.cl
    unfold numF at c3
    refine hK.out _ _ c3 (fun hHeld => ?_)
    clear hK K c3
    try simp only [Act.put, List.getElem_toArray, List.getElem_cons_succ, List.getElem_cons_zero, List.setIfInBounds_toArray, List.set_cons_zero, List.set_cons_succ]
    refine wpAnyH_done (by kernel_rfl) ?_ _
    refine NoPanic.normal ?_
    clear hHeld
    have y0 : w_14.cell? ⟨H + 1, 0, none⟩ = some (.int .i64 6) := by
      have := S14.out.box.cell 0 _ rfl
      rw [HHH.out] at this
      exact this
    go_wp2_with fail
    clear y0
    go_step3
    simp only [Exit.inBlock, Exit.then]
    refine gotoQ_goto rfl ?_
    have HSEM : Hid (parseF xs = goO o12 (Pa.ret ⟨6, (s : Int), (d : Int), ep, lf, (fl : Int), gn, 0, 0, [], [], [], 0, [], []⟩) ∨ (parseF xs = none ∧ ¬ MayF ⟨6, (s : Int), (d : Int), ep, lf, (fl : Int), gn, 0, 0, [], [], [], 0, [], []⟩)) := by
      left
      show goO (some xs) parseF = _
      unfold parseF
      rw [go_num, HV1.out, HO1.out, go_num, HV2.out, HO2.out, go_num, HV3.out, HO3.out, go_num, HV6.out, HO6.out, go_num, HV7.out, HO7.out, rest_6]
      unfold closP
      rw [go_num, HV11.out, HO11.out, go_num, HV12.out, HO12.out]
    have HCON : Hid (∀ (G : Nat → Prop) (w' : World), Turned G w_14 w' → (∀ b, G b → F b ∨ b ≤ H) → FrIn w' w'.heap.size noM ⟨6, (s : Int), (d : Int), ep, lf, (fl : Int), gn, 0, 0, [], [], [], 0, [], []⟩) := by
      exact fun G w' kG hG => fr_plain w' _ rfl rfl rfl rfl rfl ⟨by unfold I64; dsimp only; omega, by unfold I64; dsimp only; omega, by unfold I64; dsimp only; omega, by unfold I64; dsimp only; omega⟩ ⟨by unfold U64; dsimp only; omega, by unfold U64; dsimp only; omega, by unfold U64; dsimp only; omega, by unfold U64; dsimp only; omega, by unfold U64; dsimp only; omega, by unfold U64; dsimp only; omega⟩
    have SE := Lib.hid (S14.out.keep (Keep.refl w_14).drew)
    have fbx := SE.out.box
    rw [HHH.out] at fbx
    have HE := Lib.hid (rdend_any F N ge gr o12 _ SE.out.t.rd)
    go_wp2_with fail
    refine wp_region_noPanic ?_
    refine wp_region_held_drew (S := fun wz => FrBox wz (H + 1) 52 noM ⟨6, (s : Int), (d : Int), ep, lf, (fl : Int), gn, 0, 0, [], [], [], 0, [], []⟩) (by kernel_rfl) fbx (fun hHeld => ?_)
    clear fbx
    refine wpAnyH_take (i := 0) (v := ?_) rfl (by kernel_rfl) (by kernel_rfl) (by kernel_rfl) (fun _ _ _ h => h) (Or.inl ⟨by rfl, ?_⟩) hHeld ?_
    rotate_left
    · intro wq hSw
      obtain ⟨⟨y0, y1, y2, y3, y4⟩, ⟨y5, y6, y7, y8⟩, ⟨y9, y10, y11⟩, y12, y13, y14⟩ := FrBox.cells hSw
      dsimp only [noM] at y0 y1 y2 y3 y4 y5 y6 y7 y8 y9 y10 y11 y12 y13 y14
      go_simp
      all_goals with_reducible rfl
    try simp only [Act.put, List.getElem_toArray, List.getElem_cons_succ, List.getElem_cons_zero, List.setIfInBounds_toArray, List.set_cons_zero, List.set_cons_succ]
    refine wpAnyH_take (i := 1) (v := ?_) rfl (by kernel_rfl) (by kernel_rfl) (by kernel_rfl) (fun _ _ _ h => h) (Or.inl ⟨by rfl, ?_⟩) hHeld ?_
    rotate_left
    · intro wq hSw
      go_simp
      all_goals with_reducible rfl
    try simp only [Act.put, List.getElem_toArray, List.getElem_cons_succ, List.getElem_cons_zero, List.setIfInBounds_toArray, List.set_cons_zero, List.set_cons_succ]
    refine wpAnyH_ready (rs := [2]) (by kernel_rfl) (by simp) ?_
    refine AllReadyH.cons rfl (fun K hK => ?_) AllReadyH.nil
    go_simp
    refine HE.out.mono ?_
    rintro e wE ⟨er, rfl, her, tE⟩
    have sE := SE.out.t.kp
    have fbE := SE.out.box.turned tE (fun e => by have := SE.out.lo _ e; omega)
    have rsE := SE.out.res.turned tE (fun e => by have := SE.out.lo _ e; omega)
    rw [HHH.out] at fbE rsE
    have RSE := Lib.hid rsE
    have TE : Hid (Turned F w_14 wE) := (Turned.of_keep (F := F) (Keep.refl w_14).drew).trans tE (fun i e => Or.inl e)
    have KE : Hid (Keep W wE) := (sE.trans tE (fun i e => Or.inl e)).keep_new (fun i e => by have := SE.out.lo i e; omega)
    have HER := Lib.hid her
    clear her tE sE rsE HE
    refine hK.out _ _ fbE (fun hHeld => ?_)
    clear hK K fbE SE
    try simp only [Act.put, List.getElem_toArray, List.getElem_cons_succ, List.getElem_cons_zero, List.setIfInBounds_toArray, List.set_cons_zero, List.set_cons_succ]
    refine wpAnyH_ready (rs := [3]) (by kernel_rfl) (by simp) ?_
    refine AllReadyH.cons rfl (fun K hK => ?_) AllReadyH.nil
    refine step_store_row rfl 52 (.tmp 2) (.tmp 97) rfl H (frCells noM ⟨6, (s : Int), (d : Int), ep, lf, (fl : Int), gn, 0, 0, [], [], [], 0, [], []⟩) rfl rfl 52 _ RSE.out infoFr rfl (fr_one _ _) ?_
    have fbF : FrBox (wE.setRow H (frCells noM ⟨6, (s : Int), (d : Int), ep, lf, (fl : Int), gn, 0, 0, [], [], [], 0, [], []⟩)) (H + 1) 52 noM ⟨6, (s : Int), (d : Int), ep, lf, (fl : Int), gn, 0, 0, [], [], [], 0, [], []⟩ := FrBox.turned hHeld (turned_row wE H _) (by omega)
    have HF : Hid ((wE.setRow H (frCells noM ⟨6, (s : Int), (d : Int), ep, lf, (fl : Int), gn, 0, 0, [], [], [], 0, [], []⟩)).heap[H]? = some (.cells (frCells noM ⟨6, (s : Int), (d : Int), ep, lf, (fl : Int), gn, 0, 0, [], [], [], 0, [], []⟩) 52 (0, 0))) := setRow_heap _ _ _ _ _ _ RSE.out
    have TF : Hid (Turned (fun b => F b ∨ b = H) w_14 (wE.setRow H (frCells noM ⟨6, (s : Int), (d : Int), ep, lf, (fl : Int), gn, 0, 0, [], [], [], 0, [], []⟩))) := (Turned.mono TE.out (F' := fun b => F b ∨ b = H) (fun i _ e => Or.inl e)).trans (turned_row wE H _) (fun i e => Or.inl (Or.inr e))
    have KF : Hid (Keep W (wE.setRow H (frCells noM ⟨6, (s : Int), (d : Int), ep, lf, (fl : Int), gn, 0, 0, [], [], [], 0, [], []⟩))) := KE.out.setRow (by have := HHH.out; omega) RSE.out
    refine hK.out _ _ fbF (fun hHeld => ?_)
    clear hK K fbF
    try simp only [Act.put, List.getElem_toArray, List.getElem_cons_succ, List.getElem_cons_zero, List.setIfInBounds_toArray, List.set_cons_zero, List.set_cons_succ]
    refine wpAnyH_ready (rs := [4]) (by kernel_rfl) (by simp) ?_
    refine AllReadyH.cons rfl (fun K hK => ?_) AllReadyH.nil
    go_simp
    refine hK.out _ _ hHeld (fun hHeld => ?_)
    clear hK K
    try simp only [Act.put, List.getElem_toArray, List.getElem_cons_succ, List.getElem_cons_zero, List.setIfInBounds_toArray, List.set_cons_zero, List.set_cons_succ]
    refine wpAnyH_done (by kernel_rfl) ?_ _
    refine NoPanic.normal ?_
    clear hHeld
    go_wp2_with fail
    simp only [gotoQ_ret]
    refine bodyPost_ret (results_cell_two (p := 2) (u := 3) (ty := 52) resRead _ _ H 52 _ (0, 0) _ rfl HF.out Tryz.underlying52 rfl infoFr) rfl ?_
    exact read_told KF.out (fun G w'' kG hG => HCON.out (fun b => (F b ∨ b = H) ∨ G b) w'' ((Turned.mono TF.out (F' := fun b => (F b ∨ b = H) ∨ G b) (fun i _ e => Or.inl e)).trans kG (fun b e => Or.inl (Or.inr e))) (fun b hb => by
      rcases hb with (e | e) | e
      · exact Or.inl e
      · exact Or.inr (by omega)
      · exact Or.inr (by have := hG b e; have := HHH.out; omega))) HER.out HSEM.out
  have e1 : ((k : Int) == 1) = false := beq_eq_false_iff_ne.2 (by omega)
  have e2 : ((k : Int) == 2) = false := beq_eq_false_iff_ne.2 (by omega)
  have e3 : ((k : Int) == 3) = false := beq_eq_false_iff_ne.2 (by omega)
  have e4 : ((k : Int) == 4) = false := beq_eq_false_iff_ne.2 (by omega)
  have e5 : ((k : Int) == 5) = false := beq_eq_false_iff_ne.2 (by omega)
  have e6 : ((k : Int) == 6) = false := beq_eq_false_iff_ne.2 (by omega)
  have y0 : w_9.cell? ⟨H + 1, 0, none⟩ = some (.int .i64 (k : Int)) := by
    have := S9.out.box.cell 0 _ rfl
    rw [HHH.out] at this
    exact this
  go_wp2_with fail
  go_step3
  simp only [Exit.inBlock, Exit.then]
  refine gotoQ_goto rfl ?_
  clear y0 e1 e2 e3 e4 e5 e6
  have HSEM : Hid (parseF xs = goO o7 (Pa.ret ⟨(k : Int), (s : Int), (d : Int), ep, lf, 0, 0, 0, 0, [], [], [], 0, [], []⟩) ∨ (parseF xs = none ∧ ¬ MayF ⟨(k : Int), (s : Int), (d : Int), ep, lf, 0, 0, 0, 0, [], [], [], 0, [], []⟩)) := by
    right
    refine ⟨?_, fun hm => by have h1 := hm.k1; have h2 := hm.k6; dsimp only at h1 h2; omega⟩
    show goO (some xs) parseF = _
    unfold parseF
    rw [go_num, HV1.out, HO1.out, go_num, HV2.out, HO2.out, go_num, HV3.out, HO3.out, go_num, HV6.out, HO6.out, go_num, HV7.out, HO7.out, rest_fail (by omega)]
    cases o7 <;> rfl
  have HCON : Hid (∀ (G : Nat → Prop) (w' : World), Turned G w_9 w' → (∀ b, G b → F b ∨ b ≤ H) → FrIn w' w'.heap.size noM ⟨(k : Int), (s : Int), (d : Int), ep, lf, 0, 0, 0, 0, [], [], [], 0, [], []⟩) := by
    exact fun G w' kG hG => fr_plain w' _ rfl rfl rfl rfl rfl ⟨by unfold I64; dsimp only; omega, by unfold I64; dsimp only; omega, by unfold I64; dsimp only; omega, by unfold I64; dsimp only; omega⟩ ⟨by unfold U64; dsimp only; omega, by unfold U64; dsimp only; omega, by unfold U64; dsimp only; omega, by unfold U64; dsimp only; omega, by unfold U64; dsimp only; omega, by unfold U64; dsimp only; omega⟩
  have SE := Lib.hid (S9.out.keep (Keep.refl w_9).drew)
  have fbx := SE.out.box
  rw [HHH.out] at fbx
  have HE := Lib.hid (rdend_any F N ge gr o7 _ SE.out.t.rd)
  go_wp2_with fail
  refine wp_region_noPanic ?_
  refine wp_region_held_drew (S := fun wz => FrBox wz (H + 1) 52 noM ⟨(k : Int), (s : Int), (d : Int), ep, lf, 0, 0, 0, 0, [], [], [], 0, [], []⟩) (by kernel_rfl) fbx (fun hHeld => ?_)
  clear fbx
  refine wpAnyH_take (i := 0) (v := ?_) rfl (by kernel_rfl) (by kernel_rfl) (by kernel_rfl) (fun _ _ _ h => h) (Or.inl ⟨by rfl, ?_⟩) hHeld ?_
  rotate_left
  · intro wq hSw
    obtain ⟨⟨y0, y1, y2, y3, y4⟩, ⟨y5, y6, y7, y8⟩, ⟨y9, y10, y11⟩, y12, y13, y14⟩ := FrBox.cells hSw
    dsimp only [noM] at y0 y1 y2 y3 y4 y5 y6 y7 y8 y9 y10 y11 y12 y13 y14
    go_simp
    all_goals with_reducible rfl
  try simp only [Act.put, List.getElem_toArray, List.getElem_cons_succ, List.getElem_cons_zero, List.setIfInBounds_toArray, List.set_cons_zero, List.set_cons_succ]
  refine wpAnyH_take (i := 1) (v := ?_) rfl (by kernel_rfl) (by kernel_rfl) (by kernel_rfl) (fun _ _ _ h => h) (Or.inl ⟨by rfl, ?_⟩) hHeld ?_
  rotate_left
  · intro wq hSw
    go_simp
    all_goals with_reducible rfl
  try simp only [Act.put, List.getElem_toArray, List.getElem_cons_succ, List.getElem_cons_zero, List.setIfInBounds_toArray, List.set_cons_zero, List.set_cons_succ]
  refine wpAnyH_ready (rs := [2]) (by kernel_rfl) (by simp) ?_
  refine AllReadyH.cons rfl (fun K hK => ?_) AllReadyH.nil
  go_simp
  refine HE.out.mono ?_
  rintro e wE ⟨er, rfl, her, tE⟩
  have sE := SE.out.t.kp
  have fbE := SE.out.box.turned tE (fun e => by have := SE.out.lo _ e; omega)
  have rsE := SE.out.res.turned tE (fun e => by have := SE.out.lo _ e; omega)
  rw [HHH.out] at fbE rsE
  have RSE := Lib.hid rsE
  have TE : Hid (Turned F w_9 wE) := (Turned.of_keep (F := F) (Keep.refl w_9).drew).trans tE (fun i e => Or.inl e)
  have KE : Hid (Keep W wE) := (sE.trans tE (fun i e => Or.inl e)).keep_new (fun i e => by have := SE.out.lo i e; omega)
  have HER := Lib.hid her
  clear her tE sE rsE HE
  refine hK.out _ _ fbE (fun hHeld => ?_)
  clear hK K fbE SE
  try simp only [Act.put, List.getElem_toArray, List.getElem_cons_succ, List.getElem_cons_zero, List.setIfInBounds_toArray, List.set_cons_zero, List.set_cons_succ]
  refine wpAnyH_ready (rs := [3]) (by kernel_rfl) (by simp) ?_
  refine AllReadyH.cons rfl (fun K hK => ?_) AllReadyH.nil
  refine step_store_row rfl 52 (.tmp 2) (.tmp 97) rfl H (frCells noM ⟨(k : Int), (s : Int), (d : Int), ep, lf, 0, 0, 0, 0, [], [], [], 0, [], []⟩) rfl rfl 52 _ RSE.out infoFr rfl (fr_one _ _) ?_
  have fbF : FrBox (wE.setRow H (frCells noM ⟨(k : Int), (s : Int), (d : Int), ep, lf, 0, 0, 0, 0, [], [], [], 0, [], []⟩)) (H + 1) 52 noM ⟨(k : Int), (s : Int), (d : Int), ep, lf, 0, 0, 0, 0, [], [], [], 0, [], []⟩ := FrBox.turned hHeld (turned_row wE H _) (by omega)
  have HF : Hid ((wE.setRow H (frCells noM ⟨(k : Int), (s : Int), (d : Int), ep, lf, 0, 0, 0, 0, [], [], [], 0, [], []⟩)).heap[H]? = some (.cells (frCells noM ⟨(k : Int), (s : Int), (d : Int), ep, lf, 0, 0, 0, 0, [], [], [], 0, [], []⟩) 52 (0, 0))) := setRow_heap _ _ _ _ _ _ RSE.out
  have TF : Hid (Turned (fun b => F b ∨ b = H) w_9 (wE.setRow H (frCells noM ⟨(k : Int), (s : Int), (d : Int), ep, lf, 0, 0, 0, 0, [], [], [], 0, [], []⟩))) := (Turned.mono TE.out (F' := fun b => F b ∨ b = H) (fun i _ e => Or.inl e)).trans (turned_row wE H _) (fun i e => Or.inl (Or.inr e))
  have KF : Hid (Keep W (wE.setRow H (frCells noM ⟨(k : Int), (s : Int), (d : Int), ep, lf, 0, 0, 0, 0, [], [], [], 0, [], []⟩))) := KE.out.setRow (by have := HHH.out; omega) RSE.out
  refine hK.out _ _ fbF (fun hHeld => ?_)
  clear hK K fbF
  try simp only [Act.put, List.getElem_toArray, List.getElem_cons_succ, List.getElem_cons_zero, List.setIfInBounds_toArray, List.set_cons_zero, List.set_cons_succ]
  refine wpAnyH_ready (rs := [4]) (by kernel_rfl) (by simp) ?_
  refine AllReadyH.cons rfl (fun K hK => ?_) AllReadyH.nil
  go_simp
  refine hK.out _ _ hHeld (fun hHeld => ?_)
  clear hK K
  try simp only [Act.put, List.getElem_toArray, List.getElem_cons_succ, List.getElem_cons_zero, List.setIfInBounds_toArray, List.set_cons_zero, List.set_cons_succ]
  refine wpAnyH_done (by kernel_rfl) ?_ _
  refine NoPanic.normal ?_
  clear hHeld
  go_wp2_with fail
  simp only [gotoQ_ret]
  refine bodyPost_ret (results_cell_two (p := 2) (u := 3) (ty := 52) resRead _ _ H 52 _ (0, 0) _ rfl HF.out Tryz.underlying52 rfl infoFr) rfl ?_
  exact read_told KF.out (fun G w'' kG hG => HCON.out (fun b => (F b ∨ b = H) ∨ G b) w'' ((Turned.mono TF.out (F' := fun b => (F b ∨ b = H) ∨ G b) (fun i _ e => Or.inl e)).trans kG (fun b e => Or.inl (Or.inr e))) (fun b hb => by
    rcases hb with (e | e) | e
    · exact Or.inl e
    · exact Or.inr (by omega)
    · exact Or.inr (by have := hG b e; have := HHH.out; omega))) HER.out HSEM.out
end Go.Proofs.YtifopodnceopjaaGreatDoor
