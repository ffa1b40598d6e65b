/- The landed timers: alarms in a map of one's own; how timers lie. -/
import Derived.Test.YtjjoieahodfikaaQaa
import Derived.Maps.OwnOps
import Derived.Maps.Views
import Derived.Maps.OwnSet
import Derived.Maps.RangeWalk
import Derived.WideKeyArgs
import Derived.ChangeKeysEq
import Derived.StillTailTactics
namespace Go.Proofs.Ytjjoieahodfikaa
open Go.RowKit Go.Maps Tmr
set_option linter.unusedVariables false
set_option linter.unusedSimpArgs false
/-- How an alarm reads: two numbers. -/
def almE : Value → Option (DataW Unit × List MemPlace)
  | .agg cs => match cs.toList with
    | [.int .u64 a, .int .u64 b] => some (.agg [.lit (.int .u64 a), .lit (.int .u64 b)], [])
    | _ => none
  | _ => none
def almD (e d : Int) : DataW Unit := .agg [.lit (.int .u64 e), .lit (.int .u64 d)]
def almC (e d : Nat) : Value := .agg #[.int .u64 (e : Int), .int .u64 (d : Int)]
theorem almE_mk (e d : Int) : almE (.agg #[.int .u64 e, .int .u64 d]) = some (almD e d, []) := rfl
theorem almE_inv {v : Value} {y : DataW Unit × List MemPlace} (h : almE v = some y) : ∃ e d, v = .agg #[.int .u64 e, .int .u64 d] ∧ y = (almD e d, []) := by
  unfold almE at h
  split at h
  · rename_i cs
    split at h
    · rename_i a b hcs
      have : cs = #[.int .u64 a, .int .u64 b] := by rw [← Array.toArray_toList (xs := cs), hcs]
      subst this
      injection h with h
      exact ⟨a, b, rfl, h.symm⟩
    · cases h
  · cases h
theorem almD_inj {e d e' d' : Int} (h : almD e d = almD e' d') : e = e' ∧ d = d' := by
  unfold almD at h
  injection h with h
  injection h with h1 h2
  injection h2 with h2 _
  injection h1 with h1; injection h1 with _ h1
  injection h2 with h2; injection h2 with _ h2
  exact ⟨h1, h2⟩
theorem lit_in {a b : Int} (h : Lit.int .i64 a = Lit.int .i64 b) : a = b := by injection h
theorem lit_nat {a b : Nat} (h : Lit.int .i64 (a : Int) = Lit.int .i64 (b : Int)) : a = b := Int.ofNat.inj (lit_in h)
theorem keyedI : Keyed Try.prog 3 := int_keyed Try.underlying3
theorem i64_lit {z : Int} (h : -9223372036854775808 ≤ z) (h2 : z ≤ 9223372036854775807) : (Lit.int .i64 z).wf = true := by
  simp [Lit.wf, IntKind.min, IntKind.max, IntKind.signed, IntKind.bits]; omega
theorem i64_back {z : Int} (h : (Lit.int .i64 z).wf = true) : -9223372036854775808 ≤ z ∧ z ≤ 9223372036854775807 := by
  simpa [Lit.wf, IntKind.min, IntKind.max, IntKind.signed, IntKind.bits] using h
theorem keyI {z : Int} (h : (Lit.int .i64 z).wf = true) : keyOf Try.prog 3 (.int .i64 z) = some (.int .i64 z) := keyOf_int_mk Try.underlying3 h
theorem zeroA (w : World) : (zeroValue 64).run Try.prog w = .ok (.agg #[.int .u64 0, .int .u64 0]) w := by kernel_rfl
theorem undM : Try.prog.underlying 60 = some (.map 3 64) := Try.underlying60
/-- The alarms of l, in the map of block B. -/
def MapA (w : World) (B : Nat) (l : List Alarm) : Prop :=
  ∃ D : DataW Unit, w.ownsMap Try.prog 3 almE B l.length D ∧ size D = l.length ∧ (∀ a ∈ l, ∀ z, D.atKey (.int .i64 (a.name : Int)) z = almD a.every a.due) ∧ ∀ x : Int, (∀ a ∈ l, (a.name : Int) ≠ x) → has D (.int .i64 x) = false
theorem own_exact {H : Type} {P : Program} {w : World} {k : TypeId} {R : Value → Option (DataW H × List MemPlace)} {b n : Nat} {D : DataW H} (h : w.ownsMap P k R b n D) : w.ownsMap P k R b (size D) D := by
  obtain ⟨es, clock, hb, F, hs, rfl⟩ := h
  refine ⟨es, clock, hb, F, ?_, rfl⟩
  rw [size_eq, length_sorted]; simp
theorem setL_length (a : Alarm) : ∀ l : List Alarm, (setL a l).length = l.length + 1
  | [] => rfl
  | b :: r => by
    unfold setL
    split
    · rw [List.length_cons, setL_length a r, List.length_cons]
    · rfl
theorem stopL_length {l : List Alarm} (h : Rising l) {a : Alarm} (ha : a ∈ l) : (stopL a.name l).length + 1 = l.length := by
  obtain ⟨k, hk, e⟩ := List.getElem_of_mem ha
  rw [stopL_at h (by rw [List.getElem?_eq_getElem hk, e]), List.length_append, List.length_take, List.length_drop]; omega
/-- One of them is another one. -/
def putL (a : Alarm) (l : List Alarm) : List Alarm := l.map fun x => if x.name = a.name then a else x
theorem mem_putL {a b : Alarm} {l : List Alarm} (h : b ∈ putL a l) : (b = a ∧ ∃ x ∈ l, x.name = a.name) ∨ (b ∈ l ∧ b.name ≠ a.name) := by
  obtain ⟨x, hx, e⟩ := List.mem_map.1 h
  split at e
  · rename_i hn; exact Or.inl ⟨e.symm, x, hx, hn⟩
  · rename_i hn; subst e; exact Or.inr ⟨hx, hn⟩
theorem putL_anew {c : Nat} {a : Alarm} {l : List Alarm} (h : Rising l) (ha : a ∈ l) : putL (anew c a) l = againL c a.name l := by
  unfold putL againL
  refine List.map_congr_left fun x hx => ?_
  show (if x.name = a.name then anew c a else x) = _
  by_cases e : x.name = a.name
  · rw [if_pos e, if_pos e, rising_inj h hx ha e]
  · rw [if_neg e, if_neg e]
namespace MapA
variable {w w' : World} {B : Nat} {l : List Alarm}
theorem made (w : World) : MapA (w.alloc (.map #[] 0)) w.heap.size [] :=
  ⟨.map [], World.ownsMap_made _ _ _ _, rfl, fun a h => (nomatch h), fun x _ => rfl⟩
theorem block (h : MapA w B l) (e : w'.heap[B]? = w.heap[B]?) : MapA w' B l := by
  obtain ⟨D, ⟨es, clock, hb, r⟩, h2⟩ := h
  exact ⟨D, ⟨es, clock, e.trans hb, r⟩, h2⟩
theorem lt (h : MapA w B l) : B < w.heap.size := by obtain ⟨D, h1, _⟩ := h; exact h1.lt
theorem turned {F : Nat → Prop} (h : MapA w B l) (t : Turned F w w') (hn : ¬ F B) : MapA w' B l := h.block (t.block B h.lt hn)
theorem look_in (h : MapA w B l) {a : Alarm} (ha : a ∈ l) (hn : a.name < 9223372036854775808) :
    (Instr.lookup 60 (.map (some B)) (.int .i64 (a.name : Int)) true).run Try.prog w = .ok (.tuple #[almC a.every a.due, .bool true]) w ∧ (Instr.lookup 60 (.map (some B)) (.int .i64 (a.name : Int)) false).run Try.prog w = .ok (almC a.every a.due) w := by
  obtain ⟨D, h1, h2, h3, h4⟩ := h
  have wf := i64_lit (z := (a.name : Int)) (by omega) (by omega)
  constructor
  · obtain ⟨v, ps, hr, hv⟩ := h1.look_ok keyedI undM (zeroA w) (almE_mk 0 0) (keyI wf)
    rw [has_true_of_atKey (fun z => h3 a ha z)] at hr
    rw [h3 a ha] at hv
    obtain ⟨e, d, rfl, e2⟩ := almE_inv hv
    obtain ⟨rfl, rfl⟩ := almD_inj (Prod.mk.inj e2).1
    exact hr
  · obtain ⟨v, ps, hr, hv⟩ := h1.lookup keyedI undM (zeroA w) (almE_mk 0 0) (keyI wf)
    rw [h3 a ha] at hv
    obtain ⟨e, d, rfl, e2⟩ := almE_inv hv
    obtain ⟨rfl, rfl⟩ := almD_inj (Prod.mk.inj e2).1
    exact hr
theorem look_out (h : MapA w B l) {x : Int} (hx : ∀ a ∈ l, (a.name : Int) ≠ x) (wf : (Lit.int .i64 x).wf = true) :
    (Instr.lookup 60 (.map (some B)) (.int .i64 x) true).run Try.prog w = .ok (.tuple #[almC 0 0, .bool false]) w ∧ (Instr.lookup 60 (.map (some B)) (.int .i64 x) false).run Try.prog w = .ok (almC 0 0) w := by
  obtain ⟨D, h1, h2, h3, h4⟩ := h
  have hf := h4 x hx
  constructor
  · obtain ⟨v, ps, hr, hv⟩ := h1.look_ok keyedI undM (zeroA w) (almE_mk 0 0) (keyI wf)
    rw [hf] at hr
    rw [atKey_of_not_has hf] at hv
    obtain ⟨e, d, rfl, e2⟩ := almE_inv hv
    obtain ⟨rfl, rfl⟩ := almD_inj (Prod.mk.inj e2).1
    exact hr
  · obtain ⟨v, ps, hr, hv⟩ := h1.lookup keyedI undM (zeroA w) (almE_mk 0 0) (keyI wf)
    rw [atKey_of_not_has hf] at hv
    obtain ⟨e, d, rfl, e2⟩ := almE_inv hv
    obtain ⟨rfl, rfl⟩ := almD_inj (Prod.mk.inj e2).1
    exact hr
theorem len (h : MapA w B l) (ty : TypeId) : (Builtin.len_ #[60] ty #[.map (some B)]).run Try.prog w = .ok (.int .i64 (l.length : Int)) w := by
  obtain ⟨D, h1, h2, _⟩ := h
  rw [h1.len undM ty, h2]
theorem put_new (h : MapA w B l) (a : Alarm) (hn : ¬ isIn a.name l) (hm : a.name < 9223372036854775808) (hf : l.length ≤ 1000000) :
    ∃ w', (Instr.mapUpdate 60 (.map (some B)) (.int .i64 (a.name : Int)) (almC a.every a.due)).run Try.prog w = .ok () w' ∧ MapA w' B (setL a l) ∧ w.grownBy w' (some B) := by
  obtain ⟨D, h1, h2, h3, h4⟩ := h
  have wf := i64_lit (z := (a.name : Int)) (by omega) (by omega)
  obtain ⟨w', r1, r2, r3⟩ := h1.update keyedI undM (by unfold maxLen; omega) (keyI wf) (almE_mk (a.every : Int) (a.due : Int))
  have hno : has D (.int .i64 (a.name : Int)) = false := h4 _ fun b hb e => hn ⟨b, hb, by omega⟩
  have hs : size (D.put (.int .i64 (a.name : Int)) (almD a.every a.due)) = (setL a l).length := by
    rw [size_put (h1.tidy keyedI), hno, setL_length]; simp [h2]
  refine ⟨w', r1, ⟨_, hs ▸ own_exact r2, hs, fun b hb z => ?_, fun x hx => ?_⟩, r3⟩
  · rcases mem_setL.1 hb with rfl | hb
    · exact atKey_put_same h1.isMap (keyedI.key (keyI wf)) _ _
    · rw [atKey_put_other (fun e => hn ⟨b, hb, lit_nat e⟩)]
      exact h3 b hb z
  · rw [has_put_other (fun e => hx a (mem_setL.2 (Or.inl rfl)) (lit_in e).symm)]
    exact h4 x fun b hb => hx b (mem_setL.2 (Or.inr hb))
theorem put_old (h : MapA w B l) (a : Alarm) (hn : isIn a.name l) (hm : a.name < 9223372036854775808) (hf : l.length ≤ 1000000) :
    ∃ w', (Instr.mapUpdate 60 (.map (some B)) (.int .i64 (a.name : Int)) (almC a.every a.due)).run Try.prog w = .ok () w' ∧ MapA w' B (putL a l) ∧ w.grownBy w' (some B) := by
  obtain ⟨D, h1, h2, h3, h4⟩ := h
  have wf := i64_lit (z := (a.name : Int)) (by omega) (by omega)
  obtain ⟨w', r1, r2, r3⟩ := h1.update keyedI undM (by unfold maxLen; omega) (keyI wf) (almE_mk (a.every : Int) (a.due : Int))
  obtain ⟨y, hy, hya⟩ := hn
  have hyes : has D (.int .i64 (a.name : Int)) = true := has_true_of_atKey (y := almD y.every y.due) (fun z => by have := h3 y hy z; rwa [hya] at this)
  have hs : size (D.put (.int .i64 (a.name : Int)) (almD a.every a.due)) = (putL a l).length := by
    rw [size_put (h1.tidy keyedI), hyes]; simp [h2, putL]
  refine ⟨w', r1, ⟨_, hs ▸ own_exact r2, hs, fun b hb z => ?_, fun x hx => ?_⟩, r3⟩
  · rcases mem_putL hb with ⟨rfl, _⟩ | ⟨hb, hne⟩
    · exact atKey_put_same h1.isMap (keyedI.key (keyI wf)) _ _
    · rw [atKey_put_other (fun e => hne (lit_nat e))]
      exact h3 b hb z
  · have hax : (a.name : Int) ≠ x := hx a (List.mem_map.2 ⟨y, hy, by rw [if_pos hya]⟩)
    rw [has_put_other (fun e => hax (lit_in e).symm)]
    refine h4 x fun b hb e => ?_
    by_cases hba : b.name = a.name
    · exact hax (by omega)
    · exact hx b (List.mem_map.2 ⟨b, hb, by rw [if_neg hba]⟩) e
theorem drop (h : MapA w B l) (hl : Rising l) {a : Alarm} (ha : a ∈ l) (hm : a.name < 9223372036854775808) (ty : TypeId) :
    ∃ w', (Builtin.delete_ #[60, 3] ty #[.map (some B), .int .i64 (a.name : Int)]).run Try.prog w = .ok (.tuple #[]) w' ∧ MapA w' B (stopL a.name l) ∧ w.grownBy w' (some B) := by
  obtain ⟨D, h1, h2, h3, h4⟩ := h
  have wf := i64_lit (z := (a.name : Int)) (by omega) (by omega)
  obtain ⟨w', r1, r2, r3⟩ := h1.drop keyedI undM (keyI wf) ty
  have hyes : has D (.int .i64 (a.name : Int)) = true := has_true_of_atKey (fun z => h3 a ha z)
  have hs : size (D.del (.int .i64 (a.name : Int))) = (stopL a.name l).length := by
    have e1 := size_del (k := .int .i64 (a.name : Int)) (h1.tidy keyedI)
    rw [hyes] at e1
    have e2 := stopL_length hl ha
    simp at e1; omega
  refine ⟨w', r1, ⟨_, hs ▸ own_exact r2, hs, fun b hb z => ?_, fun x hx => ?_⟩, r3.grown⟩
  · have hb2 := List.mem_filter.1 hb
    have hne : b.name ≠ a.name := by simpa using hb2.2
    rw [atKey_del_other (fun e => hne (lit_nat e))]
    exact h3 b hb2.1 z
  · by_cases e : (a.name : Int) = x
    · rw [← e]; exact has_del_same
    · rw [has_del_other (fun e2 => e (lit_in e2).symm)]
      refine h4 x fun b hb e2 => ?_
      by_cases hba : b.name = a.name
      · exact e (by omega)
      · exact hx b (List.mem_filter.2 ⟨hb, by simpa using hba⟩) e2
end MapA
/-- The landed timers in block g, their map in block mb. -/
structure TmL (w : World) (B g mb clk : Nat) (l : List Alarm) : Prop where
  block : w.heap[g]? = some (.cells #[.int .u64 (clk : Int), .map (some mb)] 62 (0, 0))
  map : MapA w mb l
  ap : mb ≠ g
  low : B ≤ g ∧ B ≤ mb
  rising : Rising l
  clock : clk ≤ maxT
  fine : ∀ a ∈ l, FineA a
  few : l.length ≤ 100000
namespace TmL
variable {w w' : World} {B g mb clk : Nat} {l : List Alarm}
theorem lt (h : TmL w B g mb clk l) : g < w.heap.size := (Array.getElem?_eq_some_iff.1 h.block).1
theorem mlt (h : TmL w B g mb clk l) : mb < w.heap.size := h.map.lt
theorem c0 (h : TmL w B g mb clk l) : w.cell? ⟨g, 0, none⟩ = some (.int .u64 (clk : Int)) := by unfold World.cell?; rw [h.block]; rfl
theorem c1 (h : TmL w B g mb clk l) : w.cell? ⟨g, 1, none⟩ = some (.map (some mb)) := by unfold World.cell?; rw [h.block]; rfl
theorem f0 (h : TmL w B g mb clk l) : w.frozen? ⟨g, 0, none⟩ = false := by simp [World.frozen?, h.block]
theorem f1 (h : TmL w B g mb clk l) : w.frozen? ⟨g, 1, none⟩ = false := by simp [World.frozen?, h.block]
theorem turned {G : Nat → Prop} (h : TmL w B g mb clk l) (t : Turned G w w') (h1 : ¬ G g) (h2 : ¬ G mb) : TmL w' B g mb clk l :=
  ⟨(t.block g h.lt h1).trans h.block, h.map.turned t h2, h.ap, h.low, h.rising, h.clock, h.fine, h.few⟩
theorem keep (h : TmL w B g mb clk l) (t : Keep w w') : TmL w' B g mb clk l := h.turned (Turned.of_keep (F := fun _ => False) t) (fun e => e) (fun e => e)
end TmL
/-- What may turn of timers. -/
def FpT (g mb : Nat) (b : Nat) : Prop := b = g ∨ b = mb
end Go.Proofs.Ytjjoieahodfikaa
/- The landed timers: New, isMade, lay, Set, Stop, Again, Now. -/
namespace Go.Proofs.Ytjjoieahodfikaa
open Go.RowKit Go.Maps Tmr
set_option linter.unusedVariables false
set_option linter.unusedSimpArgs false
set_option maxRecDepth 100000
theorem run_leastT (a m : Nat) (h : min a 1099511627776 = m) (w : World) : (Builtin.min_ #[27, 27] 27 #[.int .u64 (a : Int), .int .u64 1099511627776]).run Try.prog w = .ok (.int .u64 (m : Int)) w := by
  rw [run_min_int2]; congr 2; split <;> omega
theorem map_some (mb : Nat) (w : World) : (binOp BinOp.neq 60 (.map (some mb)) (.map none)).run Try.prog w = .ok (.bool true) w := by kernel_rfl
section
variable {w : World} {B g mb clk : Nat} {l : List Alarm}
theorem tmade (h : TmL w B g mb clk l) : Calls Try.prog 23 #[.pointer (some ⟨g, 0, none⟩)] w fun r w' => r = .returned (.bool true) ∧ w' = w := by
  have c1 := h.c1
  have hb := map_some mb w
  clear h
  go_enter Try.func23, Try.ntmps23
  go_wp2_with fail
  go_ret
  exact ⟨rfl, rfl⟩
theorem tnow (h : TmL w B g mb clk l) : Calls Try.prog 21 #[.pointer (some ⟨g, 0, none⟩)] w fun r w' => r = .returned (.int .u64 (clk : Int)) ∧ w' = w := by
  have c0 := h.c0
  have CM := Lib.hid (tmade h)
  clear h
  go_enter Try.func21, Try.ntmps21
  go_wp2_with fail
  refine CM.out.mono ?_
  rintro e w1 ⟨rfl, rfl⟩
  go_wp2_with fail
  go_ret
  exact ⟨rfl, rfl⟩
/-- lay: whatever the map's store leaves. -/
theorem tlay (h : TmL w B g mb clk l) (a : Alarm) (he : a.every ≤ maxT) (hd : a.due = later clk a.every) (l' : List Alarm) (h1 : Rising l') (h2 : ∀ b ∈ l', FineA b) (h3 : l'.length ≤ 100000)
    (hr : ∃ w', (Instr.mapUpdate 60 (.map (some mb)) (.int .i64 (a.name : Int)) (almC a.every a.due)).run Try.prog w.drew = .ok () w' ∧ MapA w' mb l' ∧ w.drew.grownBy w' (some mb)) :
    Calls Try.prog 24 #[.pointer (some ⟨g, 0, none⟩), .int .i64 (a.name : Int), .int .u64 (a.every : Int)] w fun r w' => r = .returned (.tuple #[]) ∧ TmL w' B g mb clk l' ∧ Turned (fun b => b = mb) w w' := by
  obtain ⟨w2, hrun, hm, hg⟩ := hr
  have hT : Turned (fun b => b = mb) w w2 := ((Turned.of_keep (F := fun b => b = mb) (Keep.refl w).drew).trans (Turned.of_grown (F := fun b => b = mb) hg fun i e => (Option.some.inj e).symm) fun i e => Or.inl e)
  have hD : TmL w2 B g mb clk l' := ⟨(hT.block g h.lt (fun e => h.ap e.symm)).trans h.block, hm, h.ap, h.low, h1, h.clock, h2, h3⟩
  have HT := Lib.hid hT
  have HD := Lib.hid hD
  have hc := h.clock
  unfold maxT at hc he
  obtain ⟨s, hs⟩ : ∃ s, clk + a.every = s := ⟨_, rfl⟩
  have e1 : IntKind.u64.wrap ((clk : Int) + (a.every : Int)) = (s : Int) := by rw [IntWalk.u64_in _ (by omega)]; omega
  have hmn := run_leastT s a.due (by rw [hd]; unfold later maxT; rw [hs]) w.drew
  have c0 : w.drew.cell? ⟨g, 0, none⟩ = some (.int .u64 (clk : Int)) := h.c0
  have c1 : w.drew.cell? ⟨g, 1, none⟩ = some (.map (some mb)) := h.c1
  unfold almC at hrun
  clear hT hD hc he hd hm hg hs h h1 h2 h3
  go_enter Try.func24, Try.ntmps24
  refine wp_region_still_tail (w := w) 14 (by kernel_rfl) (by kernel_rfl) ?_
  simp only [List.take_succ_cons, List.take_zero, List.drop_succ_cons, List.drop_zero]
  change wpStill _ _ (World.drew w) _ _ _
  iterate 14 still_step
  refine wpStill_nil ?_
  change wpList _ _ _ _ _ (World.drew w)
  go_wp2_with fail
  go_end0
  exact ⟨rfl, HD.out, HT.out⟩
end
end Go.Proofs.Ytjjoieahodfikaa
