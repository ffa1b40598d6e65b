/- The landed timers: going through the map's alarms; ints of one's own, sorted. -/
import Derived.Test.YtjjoieahodfikaaQab
import Derived.Test.YtjjoieahodfikaaTlay
import Derived.Sort.OwnSortedInts
import Derived.Deep.DeepCutAuto
import Derived.StillTailTactics
import Derived.Lib.SortBridge
import Derived.BigQuiet
import Derived.Laws.EntriesVeiled
import Derived.Test.YtjjoieahodfikaaQac
namespace Go.Proofs.Ytjjoieahodfikaa
open Go.RowKit Go.Maps Tmr
set_option linter.unusedVariables false
set_option linter.unusedSimpArgs false
set_option maxRecDepth 100000
/-- Two lists that rise with the same members are one. -/
theorem strict_unique {α : Type} {R : α → α → Prop} (hA : ∀ a b, R a b → ¬ R b a) : ∀ {l k : List α}, l.Pairwise R → k.Pairwise R → (∀ x, x ∈ l ↔ x ∈ k) → l = k
  | [], [], _, _, _ => rfl
  | [], b :: k, _, _, h => absurd ((h b).2 List.mem_cons_self) (by simp)
  | a :: l, [], _, _, h => absurd ((h a).1 List.mem_cons_self) (by simp)
  | a :: l, b :: k, hl, hk, h => by
    rw [List.pairwise_cons] at hl hk
    have ir : ∀ x, ¬ R x x := fun x hx => hA x x hx hx
    have hab : a = b := by
      rcases List.mem_cons.1 ((h a).1 List.mem_cons_self) with e | ha
      · exact e
      · rcases List.mem_cons.1 ((h b).2 List.mem_cons_self) with e | hb
        · exact e.symm
        · exact absurd (hk.1 a ha) (hA _ _ (hl.1 b hb))
    subst hab
    rw [strict_unique hA hl.2 hk.2 fun x => ⟨fun hx => ?_, fun hx => ?_⟩]
    · rcases List.mem_cons.1 ((h x).1 (List.mem_cons_of_mem _ hx)) with e | h2
      · subst e; exact absurd (hl.1 x hx) (ir x)
      · exact h2
    · rcases List.mem_cons.1 ((h x).2 (List.mem_cons_of_mem _ hx)) with e | h2
      · subst e; exact absurd (hk.1 x hx) (ir x)
      · exact h2
theorem sameKey_int {x y : Int} (hx : (Lit.int .i64 x).wf = true) : (Lit.int .i64 y).sameKey (.int .i64 x) = decide (y = x) := by
  by_cases e : y = x
  · subst e
    rw [WideAt.sameKey_self (keyedI.key (keyI hx))]; simp
  · rw [sameKey_ne (fun h => e (lit_in h))]; simp [e]
/-- Going through the map: what is left, how many. -/
def ItA (w : World) (mb r : Nat) (l : List Alarm) (left : Lit → Bool) (cnt : Nat) : Prop :=
  ∃ D : DataW Unit, w.ranges Try.prog 3 almE mb r l.length D left cnt ∧ size D = l.length ∧ (∀ a ∈ l, ∀ z, D.atKey (.int .i64 (a.name : Int)) z = almD a.every a.due) ∧ ∀ x : Int, (∀ a ∈ l, (a.name : Int) ≠ x) → has D (.int .i64 x) = false
namespace ItA
variable {w w' : World} {mb r cnt : Nat} {l : List Alarm} {left : Lit → Bool}
theorem map (h : ItA w mb r l left cnt) : MapA w mb l := by obtain ⟨D, h1, h2⟩ := h; exact ⟨D, h1.owns, h2⟩
theorem lt (h : ItA w mb r l left cnt) : r < w.heap.size := by obtain ⟨D, h1, h2⟩ := h; exact h1.lt
theorem block (h : ItA w mb r l left cnt) (e : w'.heap[mb]? = w.heap[mb]?) (e2 : w'.heap[r]? = w.heap[r]?) : ItA w' mb r l left cnt := by
  obtain ⟨D, ⟨es, clock, since, seen, c0, hb, F, hs, hD, hr, rest⟩, h2⟩ := h
  exact ⟨D, ⟨es, clock, since, seen, c0, e.trans hb, F, hs, hD, e2.trans hr, rest⟩, h2⟩
theorem turned {F : Nat → Prop} (h : ItA w mb r l left cnt) (t : Turned F w w') (h1 : ¬ F mb) (h2 : ¬ F r) : ItA w' mb r l left cnt := h.block (t.block mb h.map.lt h1) (t.block r h.lt h2)
theorem left_eq (h : ItA w mb r l left cnt) : w.rangeLeft mb r = cnt := by obtain ⟨D, h1, _⟩ := h; exact h1.left_eq
end ItA
section
variable {w : World} {ops : Array Oper} {rest : List Oper} {o : Oper} {a : Act} {Q : Exit → Act → World → Prop} {mb r cnt : Nat} {l : List Alarm} {left : Lit → Bool}
theorem wpList_range_al (hg : o.guard = none) (m : Operand) (hop : o.op = Op.range 60 m) (hm : a.eval m = .map (some mb)) (h : MapA w mb l)
    (hK : ∀ w' left, (∀ b ∈ l, left (.int .i64 (b.name : Int)) = true) → ItA w' mb w.heap.size l left l.length → Keep w w' → w'.heap.size = w.heap.size + 1 → wpList Try.prog ops Q rest (a.put o.dst (.pointer (some ⟨w.heap.size, 0, none⟩))) w') :
    wpList Try.prog ops Q (o :: rest) a w := by
  obtain ⟨D, h1, h2, h3, h4⟩ := h
  refine wpList_range_own w hg m 60 hop 3 64 keyedI undM almE mb l.length D hm h1 fun w' r1 r2 r3 => ?_
  rw [h2] at r1
  exact hK w' _ (fun b hb => has_true_of_atKey (fun z => h3 b hb z)) ⟨D, r1, h2, h3, h4⟩ (Turned.keep_new (Turned.of_grown (F := fun _ => False) r2 fun i e => nomatch e) fun i e => e.elim) r3
theorem wpList_next_al (hg : o.guard = none) (it : Operand) (hop : o.op = Op.next it false) (hit : a.eval it = .pointer (some ⟨r, 0, none⟩)) (h : ItA w mb r l left cnt)
    (hDone : cnt = 0 → (∀ kl, left kl = false) → wpList Try.prog ops Q rest (a.put o.dst (.tuple #[.bool false])) w)
    (hMore : ∀ (b : Alarm) (w' : World) (left' : Lit → Bool) (cnt' : Nat), b ∈ l → left (.int .i64 (b.name : Int)) = true → (∀ c ∈ l, left' (.int .i64 (c.name : Int)) = (left (.int .i64 (c.name : Int)) && !decide (c.name = b.name))) → ItA w' mb r l left' cnt' → cnt' < cnt →
      Turned (fun x => x = r) w w' → w'.heap.size = w.heap.size → (Instr.entry (.pointer (some ⟨r, 0, none⟩))).run Try.prog w' = .ok (.tuple #[.int .i64 (b.name : Int), almC b.every b.due]) w' → wpList Try.prog ops Q rest (a.put o.dst (.tuple #[.bool true, .int .i64 (b.name : Int), almC b.every b.due])) w') :
    wpList Try.prog ops Q (o :: rest) a w := by
  obtain ⟨D, h1, h2, h3, h4⟩ := h
  refine wpList_next_ranges w hg it hop 3 keyedI almE (Value.int .i64) (fun p : Int × Int => .agg #[.int .u64 p.1, .int .u64 p.2])
    (fun key kl hkey => by obtain ⟨x, rfl, _⟩ := Maps.keyOf_int_inv Try.underlying3 hkey; exact ⟨x, rfl⟩) (fun v y hv => by obtain ⟨e, d, rfl, _⟩ := almE_inv hv; exact ⟨(e, d), rfl⟩)
    mb r l.length D left cnt hit h1 hDone fun x p kl y w' cnt' hkey hlk hv hat hrg hlt hgr hsz hen => ?_
  obtain ⟨x', ex, rfl, hwx⟩ := Maps.keyOf_int_inv Try.underlying3 hkey
  cases ex
  have hin : ∃ b ∈ l, (b.name : Int) = x := by
    by_cases e : ∃ b ∈ l, (b.name : Int) = x
    · exact e
    · have := h4 x fun b hb hn => e ⟨b, hb, hn⟩
      rw [has_true_of_atKey hat] at this; cases this
  obtain ⟨b, hb, rfl⟩ := hin
  obtain ⟨e, d, e1, e2⟩ := almE_inv hv
  have e3 := hat (.lit (.bool true))
  rw [h3 b hb, e2] at e3
  obtain ⟨e4, e5⟩ := almD_inj e3
  obtain ⟨p1, p2⟩ := p
  have e6 : p1 = e ∧ p2 = d := by simpa using e1
  obtain ⟨rfl, rfl⟩ := e6
  subst e4 e5
  exact hMore b w' _ cnt' hb hlk (fun c hc => by
    show (left _ && !(Lit.int .i64 (c.name : Int)).sameKey (.int .i64 (b.name : Int))) = _
    rw [sameKey_int hwx]
    congr 2
    by_cases e : c.name = b.name <;> simp [e]; omega) ⟨D, hrg, h2, h3, h4⟩ hlt (Turned.of_grown hgr fun i e => (Option.some.inj e).symm) hsz hen
end
/-- Ints of one's own. -/
def zV (zs : List Int) : List Value := zs.map (Value.int .i64)
theorem infoI : (Try.prog.info? 3).map (fun i => (i.zero, i.size, i.bytes)) = some (some (.int .i64 0), 1, 8) := by kernel_rfl
def OwnZ (w : World) (base : Nat) (A : Option Addr) (n c : Nat) (zs : List Int) : Prop := w.ownsRow base 3 1 (.slice A n c) n (zV zs)
namespace OwnZ
variable {w w' : World} {base n c : Nat} {A : Option Addr} {zs : List Int}
theorem none_ (w : World) (base : Nat) : OwnZ w base none 0 0 [] := World.ownsRow_nil w base 3 1
theorem length (h : OwnZ w base A n c zs) : zs.length = n := by have := h.1; simpa [zV] using this
theorem low (h : OwnZ w base A n c zs) : ∀ b, (Value.slice A n c).ownBlock = some b → base ≤ b ∧ b < w.heap.size := fun b hb => World.ownsRow.lt h b hb
theorem turned {F : Nat → Prop} (h : OwnZ w base A n c zs) (t : Turned F w w') (hn : ∀ b, (Value.slice A n c).ownBlock = some b → ¬ F b) : OwnZ w' base A n c zs := t.owns h hn
theorem keep (h : OwnZ w base A n c zs) (t : Keep w w') : OwnZ w' base A n c zs := h.turned (Turned.of_keep (F := fun _ => False) t) fun _ _ e => e
/-- One of them. -/
theorem at_ (h : OwnZ w base A n c zs) {i : Nat} (hi : i < n) : ∃ g z, A = some ⟨g, 0, none⟩ ∧ base ≤ g ∧ g < w.heap.size ∧ zs[i]? = some z ∧ w.cell? ⟨g, 0 + i, none⟩ = some (.int .i64 z) := by
  have hl := h.length
  rcases h.2 with ⟨_, h0⟩ | ⟨g, cap, cur, hv, hg, hh, _⟩
  · omega
  · injection hv with h1 _ _
    subst h1
    have hz := List.getElem?_eq_getElem (l := zs) (i := i) (by omega)
    refine ⟨g, _, rfl, hg, (Array.getElem?_eq_some_iff.1 hh).1, hz, ?_⟩
    have := World.ownsRow.cellAt h i (by omega)
    rw [Nat.zero_add, this]
    show (zV zs)[i]? = _
    rw [zV, List.getElem?_map, hz]; rfl
end OwnZ
section
variable {P : Program}
/-- append(ints, one). -/
theorem wpList_append_int {w : World} {ops : Array Oper} {rest : List Oper} {o : Oper} {a : Act} {Q : Exit → Act → World → Prop} (hgd : o.guard = none) (s x : Operand)
    (ho : o.op = .call { callee := .builtin .append, args := #[s, x], argTypes := #[38, 38] }) {base n c cx : Nat} {A : Option Addr} {zs : List Int} {ad : Addr} {y : Int}
    (hs : a.eval s = .slice A n c) (hown : OwnZ w base A n c zs) (hx0 : a.eval x = .slice (some ad) 1 cx) (hx : w.cell? ad = some (.int .i64 y)) (hlen : n ≤ 1000000) (hbase : base ≤ w.heap.size)
    (h : ∀ A2 c2 w', OwnZ w' base A2 (n + 1) c2 (zs ++ [y]) → Turned (fun b => (Value.slice A n c).ownBlock = some b) w w' → wpList Try.prog ops Q rest (a.put o.dst (.slice A2 (n + 1) c2)) w') : wpList Try.prog ops Q (o :: rest) a w := by
  refine wpList_plain hgd fun K hK => ?_
  obtain ⟨i0, hi0, hz0, hz1, hz2⟩ := info_parts infoI
  obtain ⟨v', w', hrun, h2, h3, _, _⟩ := run_append_own_at (P := Try.prog) w base 38 o.type 3 i0 (.int .i64 0) 1 8 Try.underlying38 hi0 hz0 hz1 hz2 rfl (by decide) _ n (zV zs) hown ad 1 cx [.int .i64 y] rfl
    (fun j u hu => by
      match j, hu with
      | 0, hu =>
        simp at hu
        subst hu
        have ha : ad.add 0 = ad := by unfold Addr.add; split <;> simp_all
        rw [ha]; exact hx)
    (fun u hu => by simp at hu; subst hu; rfl) (by unfold maxLen; omega) (by omega) hbase
  obtain ⟨A2, c2, rfl⟩ := own_shape h2
  unfold Oper.wp execOp
  simp only [ho, resolve, invoke, builtin, Sem.run_bind, Sem.run_pure, Result.andThen_ok, List.map_toArray, List.map_cons, List.map_nil, hs, hx0, hrun]
  refine hK _ _ (h A2 c2 w' ?_ (Turned.of_grown h3 fun i e => e))
  unfold OwnZ zV
  rw [List.map_append]; exact h2
end
/-- slices.Sort. -/
theorem sortz_any {w : World} {base n c : Nat} {A : Option Addr} {zs : List Int} (h : OwnZ w base A n c zs) (hn : n ≤ 1000000) :
    Calls Try.prog 28 #[.slice A n c] w fun e w' => e = .returned (.tuple #[]) ∧ OwnZ w' base A n c (zs.mergeSort fun x y => decide (x ≤ y)) ∧ Turned (fun b => (Value.slice A n c).ownBlock = some b) w w' := by
  by_cases h0 : n = 0
  · subst h0
    obtain rfl : zs = [] := List.eq_nil_of_length_eq_zero h.length
    refine (Any.slices_Sort_int_none sortI A c w).mono ?_
    rintro e w' ⟨rfl, rfl⟩
    exact ⟨rfl, by simpa using h, Turned.refl _ _⟩
  · have hl := h.length
    rcases h.2 with ⟨_, h1⟩ | ⟨g, cap, cur, hv, hbase, hb, h1, h2, h3, h4⟩
    · exact absurd h1 h0
    · injection hv with e1 _ e3
      subst e1 e3
      have hS := Any.slices_Sort_int sortI g 0 c zs w (holds_of_blockI hb (by rw [hl]; simpa [zV] using h4)) (Array.getElem?_eq_some_iff.1 hb).1 (by omega)
      rw [hl] at hS
      refine Calls.mono hS ?_
      rintro e w' ⟨rfl, m, os, rfl⟩
      refine ⟨rfl, ?_, Turned.of_grown (grownBy_sortedI _) fun i e => by injection e with e; subst e; rfl⟩
      have := ownsRow_sortedI (w := w) (n := m) (os := os) (ss := zs) (ts := zs.mergeSort fun x y => decide (x ≤ y)) (by simp) hbase hb (by omega) h2 h3
      rw [hl] at this
      exact this
end Go.Proofs.Ytjjoieahodfikaa
/- The landed timers: Names. -/
namespace Go.Proofs.Ytjjoieahodfikaa
open Go.RowKit Go.Maps Tmr
set_option linter.unusedVariables false
set_option linter.unusedSimpArgs false
set_option maxRecDepth 100000
/-- What has been gone through, of those with p. -/
structure GoneZ (l : List Alarm) (p : Alarm → Prop) (left : Lit → Bool) (zs : List Int) : Prop where
  nodup : zs.Nodup
  some_ : ∀ z ∈ zs, ∃ a ∈ l, p a ∧ (a.name : Int) = z ∧ left (.int .i64 z) = false
  all : ∀ a ∈ l, p a → left (.int .i64 (a.name : Int)) = false → (a.name : Int) ∈ zs
theorem GoneZ.start {l : List Alarm} {p : Alarm → Prop} {left : Lit → Bool} (h : ∀ b ∈ l, left (.int .i64 (b.name : Int)) = true) : GoneZ l p left [] :=
  ⟨List.nodup_nil, fun z hz => (nomatch hz), fun a ha _ e => by rw [h a ha] at e; cases e⟩
section
variable {l : List Alarm} {p : Alarm → Prop} {left left' : Lit → Bool} {zs : List Int} {b : Alarm}
theorem GoneZ.put (h : GoneZ l p left zs) (hb : b ∈ l) (hp : p b) (hl : left (.int .i64 (b.name : Int)) = true) (h' : ∀ c ∈ l, left' (.int .i64 (c.name : Int)) = (left (.int .i64 (c.name : Int)) && !decide (c.name = b.name))) : GoneZ l p left' (zs ++ [(b.name : Int)]) :=
  by
  refine ⟨?_, fun z hz => ?_, fun a ha hpa e => ?_⟩
  · rw [List.nodup_append]
    refine ⟨h.nodup, by simp, fun x hx y hy e => ?_⟩
    obtain ⟨a, ha, _, hn, hf⟩ := h.some_ x hx
    simp at hy
    subst hy
    rw [e, hl] at hf; cases hf
  · rcases List.mem_append.1 hz with hz | hz
    · obtain ⟨a, ha, hpa, hn, hf⟩ := h.some_ z hz
      subst hn
      exact ⟨a, ha, hpa, rfl, by rw [h' a ha, hf]; rfl⟩
    · simp at hz
      subst hz
      exact ⟨b, hb, hp, rfl, by rw [h' b hb]; simp⟩
  · rw [h' a ha] at e
    by_cases hn : a.name = b.name
    · exact List.mem_append.2 (Or.inr (by simp [hn]))
    · simp [hn] at e
      exact List.mem_append.2 (Or.inl (h.all a ha hpa e))
theorem GoneZ.pass (h : GoneZ l p left zs) (hR : Rising l) (hb : b ∈ l) (hp : ¬ p b) (h' : ∀ c ∈ l, left' (.int .i64 (c.name : Int)) = (left (.int .i64 (c.name : Int)) && !decide (c.name = b.name))) : GoneZ l p left' zs :=
  by
  refine ⟨h.nodup, fun z hz => ?_, fun a ha hpa e => ?_⟩
  · obtain ⟨a, ha, hpa, hn, hf⟩ := h.some_ z hz
    subst hn
    exact ⟨a, ha, hpa, rfl, by rw [h' a ha, hf]; rfl⟩
  · rw [h' a ha] at e
    by_cases hn : a.name = b.name
    · obtain rfl := rising_inj hR ha hb hn
      exact absurd hpa hp
    · simp [hn] at e
      exact h.all a ha hpa e
theorem GoneZ.mem (h : GoneZ l p left zs) (hf : ∀ kl, left kl = false) (z : Int) : z ∈ zs ↔ ∃ a ∈ l, p a ∧ (a.name : Int) = z :=
  ⟨fun hz => by obtain ⟨a, ha, hp, hn, _⟩ := h.some_ z hz; exact ⟨a, ha, hp, hn⟩, fun ⟨a, ha, hp, hn⟩ => by subst hn; exact h.all a ha hp (hf _)⟩
end
def namesZ (l : List Alarm) : List Int := l.map fun a => (a.name : Int)
theorem GoneZ.sorted {l : List Alarm} {left : Lit → Bool} {zs : List Int} (h : GoneZ l (fun _ => True) left zs) (hR : Rising l) (hf : ∀ kl, left kl = false) : (zs.mergeSort fun x y => decide (x ≤ y)) = namesZ l := by
  have hp := List.mergeSort_perm zs fun x y => decide (x ≤ y)
  refine strict_unique (R := fun x y : Int => x < y) (fun a b h1 h2 => by omega) ?_ ?_ fun x => ?_
  · have h1 := List.pairwise_mergeSort (le := fun x y : Int => decide (x ≤ y)) (fun a b c h1 h2 => by simp at *; omega) (fun a b => by simp; omega) zs
    have h2 : (zs.mergeSort fun x y => decide (x ≤ y)).Pairwise (fun a b => a ≠ b) := hp.nodup_iff.2 h.nodup
    exact (h1.and h2).imp fun {a b} hab => by have := hab.1; have := hab.2; simp at *; omega
  · unfold namesZ
    rw [List.pairwise_map]
    exact hR.imp fun {a b} hab => by omega
  · rw [hp.mem_iff, h.mem hf]
    simp [namesZ]
set_option maxHeartbeats 2000000 in
theorem tnames_any {w : World} {B g mb clk : Nat} {l : List Alarm} (h : TmL w B g mb clk l) :
    Calls Try.prog 22 #[.pointer (some ⟨g, 0, none⟩)] w fun r w' => ∃ A n c, r = .returned (.slice A n c) ∧ OwnZ w' w.heap.size A n c (namesZ l) ∧ Keep w w' := by
  have CM := Lib.hid (tmade h)
  have c1 := h.c1
  have hR := Lib.hid h.rising
  have hm := h.map
  have HM := Lib.hid h.mlt
  have hfew := Lib.hid h.few
  clear h
  go_enter Try.func22, Try.ntmps22
  go_wp2_with fail
  refine CM.out.mono ?_
  rintro e w1 ⟨rfl, hw⟩
  obtain rfl : w = w1 := hw.symm
  go_wp2_with (at_range; refine wpList_range_al rfl _ rfl rfl hm ?_; intro w0 left hl0 it0 k0 s0)
  go_frame
  have HS := Lib.hid s0
  clear s0 hm c1
  go_loopw [3] (fun nv wr => ∃ (n c cnt : Nat) (A : Option Addr) (zs : List Int) (left : Lit → Bool), nv = .slice A n c ∧ ItA wr mb w.heap.size l left cnt ∧ GoneZ l (fun _ => True) left zs ∧ OwnZ wr (w.heap.size + 1) A n c zs ∧ Keep w wr ∧ w.heap.size + 1 ≤ wr.heap.size ∧ n + cnt ≤ l.length) (fun nv wr => wr.rangeLeft mb w.heap.size)
  case atStart => exact ⟨0, 0, l.length, none, [], left, rfl, it0, GoneZ.start hl0, OwnZ.none_ _ _, k0, by have := HS.out; omega, by omega⟩
  case round =>
    obtain ⟨n, c, cnt, A, zs, left, rfl, it, hg, ho, kk, hsz, hle⟩ := hrel
    have HG := Lib.hid hg
    have HO := Lib.hid ho
    have HK := Lib.hid kk
    have HZ := Lib.hid hsz
    have HL := Lib.hid hle
    have IT := Lib.hid it
    clear hg ho kk hsz hle
    go_wp2_with (at_next; refine wpList_next_al rfl _ rfl rfl it ?_ ?_)
    · intro h0 hf
      have HF := Lib.hid hf
      have CS := Lib.hid (sortz_any (w := wr) HO.out (by have := HL.out; have := hfew.out; omega))
      clear hf it h0
      go_wp2_with fail
      refine CS.out.mono ?_
      rintro e w5 ⟨rfl, o5, t5⟩
      rw [HG.out.sorted hR.out HF.out] at o5
      have O5 := Lib.hid o5
      have K5 := Lib.hid (t5.keep HK.out fun b hb => by have := (HO.out.low b hb).1; omega)
      clear o5 t5
      go_wp2_with fail
      go_ret
      exact ⟨A, n, c, rfl, (by
        have h := O5.out
        refine ⟨h.1, ?_⟩
        rcases h.2 with hv | ⟨g, cap, cur, hv, hb, r⟩
        · exact Or.inl hv
        · exact Or.inr ⟨g, cap, cur, hv, by omega, r⟩), K5.out⟩
    · intro b w2 left2 cnt2 hb hlb hl2 it2 hlt t2 s2 hen
      have kA : Keep w2 (w2.alloc (.cells #[.int .i64 (b.name : Int)] 3)) := (Keep.refl w2).alloc _ _
      have o3 : OwnZ (w2.alloc (.cells #[.int .i64 (b.name : Int)] 3)) (w.heap.size + 1) A n c zs := (HO.out.turned t2 (fun x hx e => by have := (HO.out.low x hx).1; omega)).keep kA
      have hc3 : (w2.alloc (.cells #[.int .i64 (b.name : Int)] 3)).cell? ⟨w2.heap.size, 0, none⟩ = some (.int .i64 (b.name : Int)) := by simp
      have HN : Hid (n ≤ 1000000) := Lib.hid (by have := HL.out; have := hfew.out; omega)
      have HB3 : Hid (w.heap.size + 1 ≤ (w2.alloc (.cells #[.int .i64 (b.name : Int)] 3)).heap.size) := Lib.hid (by have := HZ.out; have := kA.size; omega)
      have I3 := Lib.hid (it2.turned (Turned.of_keep (F := fun _ => False) kA) (fun e => e) (fun e => e))
      have K3 := Lib.hid ((t2.keep HK.out fun x e => by omega).trans kA)
      have G3 := Lib.hid (HG.out.put hb trivial hlb hl2)
      have L3 := Lib.hid hlt
      have I4 : Hid (∀ w4, Turned (fun x => (Value.slice A n c).ownBlock = some x) (w2.alloc (.cells #[.int .i64 (b.name : Int)] 3)) w4 → ItA w4 mb w.heap.size l left2 cnt2) := Lib.hid fun w4 t4 => I3.out.turned t4 (fun e => by have := (o3.low _ e).1; have := HM.out; omega) (fun e => by have := (o3.low _ e).1; omega)
      have K4 : Hid (∀ w4, Turned (fun x => (Value.slice A n c).ownBlock = some x) (w2.alloc (.cells #[.int .i64 (b.name : Int)] 3)) w4 → Keep w w4) := Lib.hid fun w4 t4 => t4.keep K3.out fun x e => by have := (o3.low x e).1; omega
      clear it t2 s2 hb hlb hl2 it2 hlt kA
      go_wp2_with (at_builtin; refine wpList_append_int rfl _ _ rfl rfl o3 rfl hc3 HN.out HB3.out ?_; intro A4 c4 w4 o4 t4)
      have II := I4.out w4 t4
      have HII := Lib.hid II
      have HO4 := Lib.hid o4
      have HK4 := Lib.hid (K4.out w4 t4)
      have HS4 : Hid (w.heap.size + 1 ≤ w4.heap.size) := Lib.hid (by have := HB3.out; have := t4.size; omega)
      clear II o4 t4 o3 hc3
      go_roundw
      case rel => exact ⟨n + 1, c4, cnt2, A4, zs ++ [(b.name : Int)], left2, rfl, HII.out, G3.out, HO4.out, HK4.out, HS4.out, by have := HL.out; have := L3.out; omega⟩
      case measure =>
        rw [HII.out.left_eq, IT.out.left_eq]
        exact L3.out
end Go.Proofs.Ytjjoieahodfikaa
/- The landed timers: the order of what is due: cmp.Compare, cmp.Or, the closure. -/
namespace Go.Proofs.Ytjjoieahodfikaa
open Go.RowKit Go.Maps Tmr
set_option linter.unusedVariables false
set_option linter.unusedSimpArgs false
set_option maxRecDepth 100000
/-- Less, more, neither. -/
def cmpI (a b : Int) : Int := if a < b then -1 else if b < a then 1 else 0
theorem ccmp_u64 (a b : Int) (w : World) : Calls Try.prog 31 #[.int .u64 a, .int .u64 b] w fun r w' => r = .returned (.int .i64 (cmpI a b)) ∧ w' = w := by
  have na : ∀ x : Int, Calls Try.prog 36 #[.int .u64 x] w fun r w' => r = .returned (.bool false) ∧ w' = w := fun x => by
    have d : (x != x) = false := by simp
    go_enter Try.func36, Try.ntmps36
    go_wp2_with fail
    go_ret
    exact ⟨rfl, rfl⟩
  have C1 := Lib.hid (na a)
  have C2 := Lib.hid (na b)
  clear na
  by_cases h1 : a < b
  · have d1 : decide (a < b) = true := decide_eq_true h1
    have e : cmpI a b = -1 := if_pos h1
    rw [e]
    clear h1 e
    go_enter Try.func31, Try.ntmps31
    go_wp2_with fail
    refine C1.out.mono ?_
    rintro e w1 ⟨rfl, rfl⟩
    go_wp2_with fail
    refine C2.out.mono ?_
    rintro e w1 ⟨rfl, rfl⟩
    go_wp2_with fail
    go_ret
    exact ⟨rfl, rfl⟩
  · have d1 : decide (a < b) = false := decide_eq_false h1
    by_cases h2 : b < a
    · have d2 : decide (b < a) = true := decide_eq_true h2
      have e : cmpI a b = 1 := by unfold cmpI; rw [if_neg h1, if_pos h2]
      rw [e]
      clear h1 h2 e
      go_enter Try.func31, Try.ntmps31
      go_wp2_with fail
      refine C1.out.mono ?_
      rintro e w1 ⟨rfl, rfl⟩
      go_wp2_with fail
      refine C2.out.mono ?_
      rintro e w1 ⟨rfl, rfl⟩
      go_wp2_with fail
      go_ret
      exact ⟨rfl, rfl⟩
    · have d2 : decide (b < a) = false := decide_eq_false h2
      have e : cmpI a b = 0 := by unfold cmpI; rw [if_neg h1, if_neg h2]
      rw [e]
      clear h1 h2 e
      go_enter Try.func31, Try.ntmps31
      go_wp2_with fail
      refine C1.out.mono ?_
      rintro e w1 ⟨rfl, rfl⟩
      go_wp2_with fail
      refine C2.out.mono ?_
      rintro e w1 ⟨rfl, rfl⟩
      go_wp2_with fail
      go_ret
      exact ⟨rfl, rfl⟩
theorem ccmp_int (a b : Int) (w : World) : Calls Try.prog 32 #[.int .i64 a, .int .i64 b] w fun r w' => r = .returned (.int .i64 (cmpI a b)) ∧ w' = w := by
  have na : ∀ x : Int, Calls Try.prog 37 #[.int .i64 x] w fun r w' => r = .returned (.bool false) ∧ w' = w := fun x => by
    have d : (x != x) = false := by simp
    go_enter Try.func37, Try.ntmps37
    go_wp2_with fail
    go_ret
    exact ⟨rfl, rfl⟩
  have C1 := Lib.hid (na a)
  have C2 := Lib.hid (na b)
  clear na
  by_cases h1 : a < b
  · have d1 : decide (a < b) = true := decide_eq_true h1
    have e : cmpI a b = -1 := if_pos h1
    rw [e]
    clear h1 e
    go_enter Try.func32, Try.ntmps32
    go_wp2_with fail
    refine C1.out.mono ?_
    rintro e w1 ⟨rfl, rfl⟩
    go_wp2_with fail
    refine C2.out.mono ?_
    rintro e w1 ⟨rfl, rfl⟩
    go_wp2_with fail
    go_ret
    exact ⟨rfl, rfl⟩
  · have d1 : decide (a < b) = false := decide_eq_false h1
    by_cases h2 : b < a
    · have d2 : decide (b < a) = true := decide_eq_true h2
      have e : cmpI a b = 1 := by unfold cmpI; rw [if_neg h1, if_pos h2]
      rw [e]
      clear h1 h2 e
      go_enter Try.func32, Try.ntmps32
      go_wp2_with fail
      refine C1.out.mono ?_
      rintro e w1 ⟨rfl, rfl⟩
      go_wp2_with fail
      refine C2.out.mono ?_
      rintro e w1 ⟨rfl, rfl⟩
      go_wp2_with fail
      go_ret
      exact ⟨rfl, rfl⟩
    · have d2 : decide (b < a) = false := decide_eq_false h2
      have e : cmpI a b = 0 := by unfold cmpI; rw [if_neg h1, if_neg h2]
      rw [e]
      clear h1 h2 e
      go_enter Try.func32, Try.ntmps32
      go_wp2_with fail
      refine C1.out.mono ?_
      rintro e w1 ⟨rfl, rfl⟩
      go_wp2_with fail
      refine C2.out.mono ?_
      rintro e w1 ⟨rfl, rfl⟩
      go_wp2_with fail
      go_ret
      exact ⟨rfl, rfl⟩
/-- cmp.Or of two. -/
theorem cor_two (a b : Int) (B : Nat) (w : World) (h0 : w.cell? ⟨B, 0, none⟩ = some (.int .i64 a)) (h1 : w.cell? ⟨B, 1, none⟩ = some (.int .i64 b)) :
    Calls Try.prog 30 #[.slice (some ⟨B, 0, none⟩) 2 2] w fun r w' => r = .returned (.int .i64 (if a = 0 then b else a)) ∧ w' = w := by
  by_cases ha : a = 0
  · subst ha
    rw [if_pos rfl]
    by_cases hb : b = 0
    · subst hb
      go_enter Try.func30, Try.ntmps30
      go_wp2_with fail
      refine wp_loop_rounds 3 ?_
      rw [rounds_succ]
      go_wp2_with fail
      rw [rounds_succ]
      go_wp2_with fail
      rw [rounds_succ]
      go_wp2_with fail
      go_ret
      exact ⟨rfl, rfl⟩
    · have d : (b != 0) = true := by rw [bne_iff_ne]; exact hb
      clear hb
      go_enter Try.func30, Try.ntmps30
      go_wp2_with fail
      refine wp_loop_rounds 2 ?_
      rw [rounds_succ]
      go_wp2_with fail
      rw [rounds_succ]
      go_wp2_with fail
      go_ret
      exact ⟨rfl, rfl⟩
  · have d : (a != 0) = true := by rw [bne_iff_ne]; exact ha
    rw [if_neg ha]
    clear ha
    go_enter Try.func30, Try.ntmps30
    go_wp2_with fail
    refine wp_loop_rounds 1 ?_
    rw [rounds_succ]
    go_wp2_with fail
    go_ret
    exact ⟨rfl, rfl⟩
/-- When an alarm of that name is due. -/
def dueOf (l : List Alarm) (x : Int) : Nat := match l.find? (fun a => decide ((a.name : Int) = x)) with | some a => a.due | none => 0
def cfT (l : List Alarm) (x y : Int) : Int := if cmpI (dueOf l x) (dueOf l y) = 0 then cmpI x y else cmpI (dueOf l x) (dueOf l y)
theorem MapA.dueOf {w : World} {B : Nat} {l : List Alarm} (h : MapA w B l) {x : Int} (wf : (Lit.int .i64 x).wf = true) :
    ∃ e : Nat, (Instr.lookup 60 (.map (some B)) (.int .i64 x) false).run Try.prog w = .ok (.agg #[.int .u64 (e : Int), .int .u64 (dueOf l x : Int)]) w := by
  unfold Go.Proofs.Ytjjoieahodfikaa.dueOf
  cases hf : l.find? (fun a => decide ((a.name : Int) = x)) with
  | none =>
    refine ⟨0, (h.look_out (fun a ha e => ?_) wf).2⟩
    have := List.find?_eq_none.1 hf a ha
    simp at this; exact this e
  | some a =>
    have h1 := List.mem_of_find?_eq_some hf
    have h2 := List.find?_some hf
    simp at h2
    subst h2
    exact ⟨a.every, (h.look_in h1 (by have := (i64_back wf).2; omega)).2⟩
theorem alloc_grow (w : World) (o : Obj) : w.alloc o = Go.Sort.grow w #[o] := by
  unfold World.alloc Go.Sort.grow
  rw [Array.push_eq_append]
theorem cells_two (W : World) (a b : Value) (t : TypeId) : (W.alloc (.cells #[a, b] t)).cell? ⟨W.heap.size, 0, none⟩ = some a ∧ (W.alloc (.cells #[a, b] t)).cell? ⟨W.heap.size, 1, none⟩ = some b := ⟨by simp, by simp⟩
theorem field_due (e d : Int) (w : World) : (Instr.field 64 (.agg #[.int .u64 e, .int .u64 d]) 1).run Try.prog w = .ok (.int .u64 d) w := by kernel_rfl
theorem field_every (e d : Int) (w : World) : (Instr.field 64 (.agg #[.int .u64 e, .int .u64 d]) 0).run Try.prog w = .ok (.int .u64 e) w := by kernel_rfl
set_option maxHeartbeats 1000000 in
theorem closure_any {w : World} {tb g mb : Nat} {l : List Alarm} (hc : w.cell? ⟨tb, 0, none⟩ = some (.pointer (some ⟨g, 0, none⟩))) (c1 : w.cell? ⟨g, 1, none⟩ = some (.map (some mb))) (hm : MapA w mb l) (x y : Int) (hx : (Lit.int .i64 x).wf = true) (hy : (Lit.int .i64 y).wf = true) :
    Calls Try.prog 29 #[.int .i64 x, .int .i64 y, .pointer (some ⟨tb, 0, none⟩)] w fun r w' => r = .returned (.int .i64 (cfT l x y)) ∧ ∃ q os, w' = Go.Sort.grow (w.drewN q) os := by
  have c0' : w.drew.cell? ⟨tb, 0, none⟩ = some (.pointer (some ⟨g, 0, none⟩)) := hc
  have c1' : w.drew.cell? ⟨g, 1, none⟩ = some (.map (some mb)) := c1
  have hmD := hm.turned (Turned.of_keep (F := fun _ => False) (Keep.refl w).drew) (fun e => e)
  obtain ⟨e1, l1⟩ := hmD.dueOf hx
  obtain ⟨e2, l2⟩ := hmD.dueOf hy
  obtain ⟨u, hu⟩ : ∃ u, cmpI (dueOf l x) (dueOf l y) = u := ⟨_, rfl⟩
  obtain ⟨v, hv⟩ : ∃ v, cmpI x y = v := ⟨_, rfl⟩
  have K1 := Lib.hid (ccmp_u64 (dueOf l x) (dueOf l y) w.drew)
  have K2 := Lib.hid (ccmp_int x y w.drew)
  have hF : cfT l x y = if u = 0 then v else u := by unfold cfT; rw [hu, hv]
  rw [hu] at K1
  rw [hv] at K2
  rw [hF]
  obtain ⟨p, hp⟩ : ∃ p, dueOf l x = p := ⟨_, rfl⟩
  obtain ⟨q, hq⟩ : ∃ q, dueOf l y = q := ⟨_, rfl⟩
  rw [hp] at l1 K1
  rw [hq] at l2 K1
  have K3 := Lib.hid (cor_two u v w.drew.heap.size (w.drew.alloc (.cells #[.int .i64 u, .int .i64 v] 3)) (cells_two w.drew _ _ _).1 (cells_two w.drew _ _ _).2)
  obtain ⟨z, hz⟩ : ∃ z, (if u = 0 then v else u) = z := ⟨_, rfl⟩
  rw [hz] at K3 ⊢
  have f1 := field_due e1 p w.drew
  have f2 := field_due e2 q w.drew
  clear hz hc c1 hm hmD hu hv hF hp hq hx hy
  go_enter Try.func29, Try.ntmps29
  go_wp2_with fail
  refine wp_region_still_tail (w := w) 18 (by kernel_rfl) (by kernel_rfl) ?_
  simp only [List.take_succ_cons, List.take_zero, List.drop_succ_cons, List.drop_zero]
  change wpStill _ _ (World.drew w) _ _ _
  iterate 14 still_step
  still_call K1.out
  iterate 2 still_step
  still_call K2.out
  refine wpStill_nil ?_
  change wpList _ _ _ _ _ (World.drew w)
  go_wp2_with fail
  refine K3.out.mono ?_
  rintro e w3 ⟨rfl, rfl⟩
  go_wp2_with fail
  go_ret
  exact ⟨rfl, 1, #[.cells #[.int .i64 u, .int .i64 v] 3], show (w.drewN 1).alloc (.cells #[.int .i64 u, .int .i64 v] 3) = _ from alloc_grow _ _⟩
end Go.Proofs.Ytjjoieahodfikaa
/- The landed timers: what is due, in order. -/
namespace Go.Proofs.Ytjjoieahodfikaa
open Go.RowKit Go.Maps Tmr Go.Sort
set_option linter.unusedVariables false
set_option linter.unusedSimpArgs false
set_option maxRecDepth 100000
/-- Ahead of, by names. -/
def ltT (l : List Alarm) (x y : Int) : Prop := dueOf l x < dueOf l y ∨ (dueOf l x = dueOf l y ∧ x < y)
instance (l : List Alarm) (x y : Int) : Decidable (ltT l x y) := by unfold ltT; infer_instance
theorem cfT_lt (l : List Alarm) (x y : Int) : cfT l x y < 0 ↔ ltT l x y := by
  unfold cfT cmpI ltT
  generalize dueOf l x = a
  generalize dueOf l y = b
  constructor
  · intro h
    split at h <;> (try split at h) <;> (try split at h) <;> omega
  · intro h
    split <;> (try split) <;> (try split) <;> omega
/-- Ints of 64 bits. -/
abbrev Z64 := {z : Int // (Lit.int .i64 z).wf = true}
instance : Inhabited Z64 := ⟨⟨0, by decide⟩⟩
def encZ (z : Z64) : Value := .int .i64 z.1
def cfZ (l : List Alarm) (x y : Z64) : Int := cfT l x.1 y.1
theorem ltZ (l : List Alarm) (x y : Z64) : ltOf (cfZ l) x y = decide (ltT l x.1 y.1) := by
  unfold ltOf cfZ
  exact decide_eq_decide.2 (cfT_lt l x.1 y.1)
theorem ltT_trans {l : List Alarm} {x y z : Int} (h1 : ltT l x y) (h2 : ltT l y z) : ltT l x z := by unfold ltT at *; omega
theorem ltT_ntrans {l : List Alarm} {x y z : Int} (h1 : ¬ ltT l x y) (h2 : ¬ ltT l y z) : ¬ ltT l x z := by unfold ltT at *; omega
theorem ltT_tot {l : List Alarm} {x y : Int} (h1 : ¬ ltT l x y) (h2 : ¬ ltT l y x) : x = y := by unfold ltT at *; omega
theorem ltT_one {l : List Alarm} (x y : Int) : ¬ ltT l x y ∨ ¬ ltT l y x := by unfold ltT; omega
theorem ltT_self {l : List Alarm} (x : Int) : ¬ ltT l x x := by unfold ltT; omega
theorem swoZ (l : List Alarm) : SWO (ltOf (cfZ l)) where
  irrefl x := by rw [ltZ]; exact decide_eq_false (ltT_self _)
  trans x y z h1 h2 := by rw [ltZ] at *; exact decide_eq_true (ltT_trans (of_decide_eq_true h1) (of_decide_eq_true h2))
  ntrans x y z h1 h2 := by rw [ltZ] at *; exact decide_eq_false (ltT_ntrans (of_decide_eq_false h1) (of_decide_eq_false h2))
theorem totZ (l : List Alarm) (x y : Z64) (h1 : ltOf (cfZ l) x y = false) (h2 : ltOf (cfZ l) y x = false) : x = y := by
  rw [ltZ] at *
  exact Subtype.ext (ltT_tot (of_decide_eq_false h1) (of_decide_eq_false h2))
theorem turned_sort {α : Type} [Inhabited α] (enc : α → Value) (w : World) (blk off m : Nat) (d : Array α) (os : Array Obj) : Turned (fun b => b = blk) w (sortWorld enc w blk off m d os) :=
  ⟨rfl, rfl, rfl, by simp [sortWorld], fun k hk hne => by
    unfold sortWorld
    rw [heap_grow_old _ _ (by simpa using hk)]
    have : blk ≠ k := fun e => hne e.symm
    simp [putRow, mapBlock, Sort.ahead, Array.getElem?_modify, this]⟩
theorem sortf_any {w : World} {base n c tb g mb : Nat} {A : Option Addr} {zs : List Int} {l : List Alarm} (h : OwnZ w base A n c zs) (hz : ∀ z ∈ zs, (Lit.int .i64 z).wf = true) (hn : n ≤ 1000000)
    (hc : w.cell? ⟨tb, 0, none⟩ = some (.pointer (some ⟨g, 0, none⟩))) (c1 : w.cell? ⟨g, 1, none⟩ = some (.map (some mb))) (hm : MapA w mb l) (hb : tb < base ∧ g < base ∧ mb < base) :
    Calls Try.prog 33 #[.slice A n c, .func (.func 29) #[] #[.pointer (some ⟨tb, 0, none⟩)]] w fun e w' => e = .returned (.tuple #[]) ∧ ∃ ys, OwnZ w' base A n c ys ∧ ys.Perm zs ∧ ys.Pairwise (fun x y => ¬ ltT l y x) ∧ Turned (fun b => (Value.slice A n c).ownBlock = some b) w w' := by
  by_cases h0 : n = 0
  · subst h0
    obtain rfl : zs = [] := List.eq_nil_of_length_eq_zero h.length
    refine (AnyF.slices_SortFunc_none (P := Try.prog) (ρ := sortL_ren) { sortL with } A c _ w).mono ?_
    rintro e w' ⟨rfl, rfl⟩
    exact ⟨rfl, [], h, List.Perm.refl _, List.Pairwise.nil, Turned.refl _ _⟩
  · have hl := h.length
    rcases h.2 with ⟨_, h1⟩ | ⟨gb, cap, cur, hv, hbase, hbk, h1, h2, h3, h4⟩
    · exact absurd h1 h0
    · injection hv with e1 _ e3
      subst e1 e3
      obtain ⟨d, hd⟩ : ∃ d : List Z64, d.map (·.1) = zs := ⟨zs.attachWith _ hz, by simp⟩
      have hdl : d.length = n := by rw [← hl, ← hd, List.length_map]
      have hHI : Holds (Value.int .i64) w gb 0 zs.toArray := holds_of_blockI hbk (by rw [hl]; simpa [zV] using h4)
      have hH : Holds encZ w gb 0 d.toArray := fun j hj => by
        have hj1 : j < d.length := by simpa using hj
        have hj2 : j < zs.length := by omega
        have := hHI j (by simpa using hj2)
        refine ⟨?_, this.2⟩
        rw [this.1]
        subst hd
        have hj3 : j < d.toArray.size := by simpa using hj1
        simp [encZ, hj1]
      have hlt := (Array.getElem?_eq_some_iff.1 hbk).1
      have hS := Any.slices_SortFunc_total sortL encZ (fun _ => rfl) (cfZ l) (swoZ l) 29 #[.pointer (some ⟨tb, 0, none⟩)] gb 0 c d.toArray w (enters_of Try.func29 (by kernel_rfl) rfl)
        (fun m os dk hs x y => by
          have t := turned_sort encZ w gb 0 m dk os
          exact closure_any (t.cell hc (by show ¬ tb = gb; omega)) (t.cell c1 (by show ¬ g = gb; omega)) (hm.turned t (by omega)) x.1 y.1 x.2 y.2) hH hlt (by simp; omega) (totZ l)
      rw [show d.toArray.size = n by simpa using hdl] at hS
      refine Calls.mono hS ?_
      rintro e w' ⟨rfl, m, os, rfl⟩
      obtain ⟨s, hs⟩ : ∃ s, (d.mergeSort fun x y => !(ltOf (cfZ l)) y x) = s := ⟨_, rfl⟩
      have hsp : s.Perm d := by rw [← hs]; exact List.mergeSort_perm _ _
      have hsl : s.length = n := by rw [hsp.length_eq, hdl]
      have hw : sortWorld encZ w gb 0 m (d.toArray.toList.mergeSort fun x y => !(ltOf (cfZ l)) y x).toArray os = Go.Sort.grow (putRow (Value.int .i64) (Sort.ahead w m) gb 0 (s.map (·.1)).toArray) os := by
        rw [show d.toArray.toList = d from rfl, hs]
        unfold sortWorld
        rw [Lib.sorted_world encZ w gb 0 m d.toArray s os hH (by simpa using hsl.trans hdl.symm), Lib.sorted_world (Value.int .i64) w gb 0 m zs.toArray (s.map (·.1)) os hHI (by simpa using hsl.trans hl.symm)]
        rw [List.map_map]; rfl
      rw [hw]
      refine ⟨rfl, s.map (·.1), ?_, by rw [← hd]; exact hsp.map _, ?_, Turned.of_grown (grownBy_sortedI _) fun i e => by injection e with e; subst e; rfl⟩
      · have := ownsRow_sortedI (w := w) (n := m) (os := os) (ss := zs) (ts := s.map (·.1)) (by simpa using hsl.trans hl.symm) hbase hbk (by omega) h2 h3
        rw [hl] at this
        exact this
      · rw [List.pairwise_map, ← hs]
        have hp := List.pairwise_mergeSort (le := fun x y : Z64 => !(ltOf (cfZ l)) y x) (fun a b c h1 h2 => by simp only [ltZ, Bool.not_eq_true', decide_eq_false_iff_not] at *; exact ltT_ntrans h2 h1) (fun a b => by simp only [ltZ, Bool.or_eq_true, Bool.not_eq_true', decide_eq_false_iff_not]; exact (ltT_one a.1 b.1).symm) d
        refine hp.imp fun {a b} hab => ?_
        rw [ltZ] at hab
        simpa using hab
/-- What is due, by names. -/
theorem due_sorted {l : List Alarm} {left : Lit → Bool} {zs ys : List Int} {clk : Nat} (h : GoneZ l (fun a => a.due ≤ clk) left zs) (hR : Rising l) (hf : ∀ kl, left kl = false) (hp : ys.Perm zs) (ho : ys.Pairwise (fun x y => ¬ ltT l y x)) : ys = namesZ (dueL clk l) := by
  have hdue : ∀ a ∈ l, dueOf l (a.name : Int) = a.due := fun a ha => by
    unfold dueOf
    cases hf : l.find? (fun b => decide ((b.name : Int) = (a.name : Int))) with
    | none => have := List.find?_eq_none.1 hf a ha; simp at this
    | some b =>
      have h1 := List.mem_of_find?_eq_some hf
      have h2 := List.find?_some hf
      simp at h2
      show b.due = a.due
      rw [rising_inj hR h1 ha (by omega)]
  refine strict_unique (R := ltT l) (fun a b h1 h2 => by unfold ltT at *; omega) ?_ ?_ fun x => ?_
  · have h2 : ys.Pairwise (fun a b => a ≠ b) := hp.nodup_iff.2 h.nodup
    exact (ho.and h2).imp fun {a b} hab => by have := hab.1; have := hab.2; unfold ltT at *; omega
  · unfold namesZ
    rw [List.pairwise_map]
    have := dueL_ordered (c := clk) hR
    unfold Ordered at this
    refine this.imp_of_mem fun {a b} ha hb hab => ?_
    have ha := ((mem_dueL hR).1 ha).1
    have hb := ((mem_dueL hR).1 hb).1
    unfold ltT
    rw [hdue a ha, hdue b hb]
    unfold Ahead at hab
    omega
  · rw [hp.mem_iff, h.mem hf]
    simp only [namesZ, List.mem_map]
    constructor
    · rintro ⟨a, ha, hd, hn⟩
      exact ⟨a, (mem_dueL hR).2 ⟨ha, hd⟩, hn⟩
    · rintro ⟨a, ha, hn⟩
      obtain ⟨h1, h2⟩ := (mem_dueL hR).1 ha
      exact ⟨a, h1, h2, hn⟩
end Go.Proofs.Ytjjoieahodfikaa
/- The landed timers: due. -/
namespace Go.Proofs.Ytjjoieahodfikaa
open Go.RowKit Go.Maps Tmr
set_option linter.unusedVariables false
set_option linter.unusedSimpArgs false
set_option maxRecDepth 100000
theorem cells_one (W : World) (a : Value) (t : TypeId) : (W.alloc (.cells #[a] t)).cell? ⟨W.heap.size, 0, none⟩ = some a := by simp
set_option maxHeartbeats 2000000 in
theorem tdue_any {w : World} {B g mb clk : Nat} {l : List Alarm} (h : TmL w B g mb clk l) :
    Calls Try.prog 27 #[.pointer (some ⟨g, 0, none⟩)] w fun r w' => ∃ A n c, r = .returned (.slice A n c) ∧ OwnZ w' w.heap.size A n c (namesZ (dueL clk l)) ∧ Keep w w' := by
  have hR := Lib.hid h.rising
  have hfew := Lib.hid h.few
  have hfine := Lib.hid h.fine
  have HM := Lib.hid (And.intro h.mlt h.lt)
  obtain ⟨w1, hw1⟩ : ∃ w1, w.alloc (.cells #[.pointer (some ⟨g, 0, none⟩)] 24) = w1 := ⟨_, rfl⟩
  have k1 : Keep w w1 := hw1 ▸ (Keep.refl w).alloc _ _
  have s1 : w1.heap.size = w.heap.size + 1 := by rw [← hw1]; simp
  have h1 := h.keep k1
  have ct : w1.cell? ⟨w.heap.size, 0, none⟩ = some (.pointer (some ⟨g, 0, none⟩)) := by rw [← hw1]; simp
  have c1 := h1.c1
  have c0 := h1.c0
  have hm := h1.map
  have K1 := Lib.hid k1
  have S1 := Lib.hid s1
  have C0 := Lib.hid c0
  have C1 := Lib.hid c1
  have CT := Lib.hid ct
  clear h h1 k1 s1 c0
  go_enter Try.func27, Try.ntmps27
  go_wp2_with (at_range; refine wpList_range_al rfl _ rfl rfl hm ?_; intro w0 left hl0 it0 k0 s0)
  go_frame
  have S0 := Lib.hid s0
  clear s0 hm c1 ct hw1
  go_loopw [4] (fun nv wr => ∃ (n c cnt : Nat) (A : Option Addr) (zs : List Int) (left : Lit → Bool), nv = .slice A n c ∧ ItA wr mb w1.heap.size l left cnt ∧ GoneZ l (fun a => a.due ≤ clk) left zs ∧ OwnZ wr (w1.heap.size + 1) A n c zs ∧ Keep w1 wr ∧ w1.heap.size + 1 ≤ wr.heap.size ∧ n + cnt ≤ l.length) (fun nv wr => wr.rangeLeft mb w1.heap.size)
  case atStart => exact ⟨0, 0, l.length, none, [], left, rfl, it0, GoneZ.start hl0, OwnZ.none_ _ _, k0, by have := S0.out; omega, by omega⟩
  case round =>
    obtain ⟨n, c, cnt, A, zs, left, rfl, it, hg, ho, kk, hsz, hle⟩ := hrel
    have HG := Lib.hid hg
    have HO := Lib.hid ho
    have HK := Lib.hid kk
    have HZ := Lib.hid hsz
    have HL := Lib.hid hle
    have IT := Lib.hid it
    clear hg ho kk hsz hle
    go_wp2_with (at_next; refine wpList_next_al rfl _ rfl rfl it ?_ ?_)
    · intro h0 hf
      have HF := Lib.hid hf
      have CS := Lib.hid (sortf_any (w := wr) (tb := w.heap.size) (g := g) (mb := mb) (l := l) HO.out (fun z hz => by
        obtain ⟨a, ha, _, e, _⟩ := HG.out.some_ z hz
        subst e
        have := (hfine.out a ha).1
        exact i64_lit (by omega) (by omega)) (by have := HL.out; have := hfew.out; omega)
        ((World.cell?_of_block (HK.out.block _ (by show w.heap.size < _; have := S1.out; omega))).trans CT.out) ((World.cell?_of_block (HK.out.block _ (by show g < _; have := S1.out; have := HM.out.2; omega))).trans C1.out) it.map ⟨by have := S1.out; omega, by have := S1.out; have := HM.out.2; omega, by have := S1.out; have := HM.out.1; omega⟩)
      clear hf it h0
      go_wp2_with fail
      refine CS.out.mono ?_
      rintro e w5 ⟨rfl, ys, o5, p5, q5, t5⟩
      rw [due_sorted HG.out hR.out HF.out p5 q5] at o5
      have O5 := Lib.hid o5
      have K5 := Lib.hid (K1.out.trans (t5.keep HK.out fun b hb => by have := (HO.out.low b hb).1; omega))
      clear o5 t5 p5 q5
      go_wp2_with fail
      go_ret
      exact ⟨A, n, c, rfl, (by
        have h := O5.out
        have hs := S1.out
        refine ⟨h.1, ?_⟩
        rcases h.2 with hv | ⟨g, cap, cur, hv, hb, r⟩
        · exact Or.inl hv
        · exact Or.inr ⟨g, cap, cur, hv, by omega, r⟩), K5.out⟩
    · intro b w2 left2 cnt2 hb hlb hl2 it2 hlt t2 s2 hen
      unfold almC at hen
      have kA : Keep w2 (w2.alloc (.cells #[.int .u64 (b.every : Int), .int .u64 (b.due : Int)] 64)) := (Keep.refl w2).alloc _ _
      have k3 : Keep w1 (w2.alloc (.cells #[.int .u64 (b.every : Int), .int .u64 (b.due : Int)] 64)) := (t2.keep HK.out fun x e => by omega).trans kA
      have o3 : OwnZ (w2.alloc (.cells #[.int .u64 (b.every : Int), .int .u64 (b.due : Int)] 64)) (w1.heap.size + 1) A n c zs := (HO.out.turned t2 (fun x hx e => by have := (HO.out.low x hx).1; omega)).keep kA
      have I3 := Lib.hid (it2.turned (Turned.of_keep (F := fun _ => False) kA) (fun e => e) (fun e => e))
      have d0 : (w2.alloc (.cells #[.int .u64 (b.every : Int), .int .u64 (b.due : Int)] 64)).cell? ⟨w2.heap.size, 1, none⟩ = some (.int .u64 (b.due : Int)) := by simp
      have d1 : (w2.alloc (.cells #[.int .u64 (b.every : Int), .int .u64 (b.due : Int)] 64)).cell? ⟨w.heap.size, 0, none⟩ = some (.pointer (some ⟨g, 0, none⟩)) := (World.cell?_of_block (k3.block _ (by show w.heap.size < _; have := S1.out; omega))).trans CT.out
      have d2 : (w2.alloc (.cells #[.int .u64 (b.every : Int), .int .u64 (b.due : Int)] 64)).cell? ⟨g, 0, none⟩ = some (.int .u64 (clk : Int)) := (World.cell?_of_block (k3.block _ (by show g < _; have := S1.out; have := HM.out.2; omega))).trans C0.out
      have HB := Lib.hid (And.intro hb (And.intro hlb hl2))
      have L3 := Lib.hid hlt
      have K3 := Lib.hid k3
      have O3 := Lib.hid o3
      have HZ3 : Hid (w1.heap.size + 1 ≤ (w2.alloc (.cells #[.int .u64 (b.every : Int), .int .u64 (b.due : Int)] 64)).heap.size) := Lib.hid (by have := HZ.out; have := t2.size; have := kA.size; omega)
      clear it t2 s2 hb hlb hl2 it2 hlt kA k3 o3
      by_cases hd : b.due ≤ clk
      · have b1 : decide ((b.due : Int) ≤ (clk : Int)) = true := decide_eq_true (by omega)
        have b2 : decide (b.due ≤ clk) = true := decide_eq_true hd
        have HD := Lib.hid hd
        clear hd
        go_wp2_with fail
        go_quiet (fail)
        have kB : Keep (w2.alloc (.cells #[.int .u64 (b.every : Int), .int .u64 (b.due : Int)] 64)) (((w2.alloc (.cells #[.int .u64 (b.every : Int), .int .u64 (b.due : Int)] 64)).drewN nq).alloc (.cells #[.int .i64 (b.name : Int)] 3)) := ((Keep.refl (w2.alloc (.cells #[.int .u64 (b.every : Int), .int .u64 (b.due : Int)] 64))).drewN nq).alloc _ _
        have o4 : OwnZ (((w2.alloc (.cells #[.int .u64 (b.every : Int), .int .u64 (b.due : Int)] 64)).drewN nq).alloc (.cells #[.int .i64 (b.name : Int)] 3)) (w1.heap.size + 1) A n c zs := O3.out.keep kB
        have hc4 : (((w2.alloc (.cells #[.int .u64 (b.every : Int), .int .u64 (b.due : Int)] 64)).drewN nq).alloc (.cells #[.int .i64 (b.name : Int)] 3)).cell? ⟨w2.heap.size + 1, 0, none⟩ = some (.int .i64 (b.name : Int)) := by
          have e : ((w2.alloc (.cells #[.int .u64 (b.every : Int), .int .u64 (b.due : Int)] 64)).drewN nq).heap.size = w2.heap.size + 1 := by show (w2.alloc (.cells #[.int .u64 (b.every : Int), .int .u64 (b.due : Int)] 64)).heap.size = _; simp
          have h := cells_one ((w2.alloc (.cells #[.int .u64 (b.every : Int), .int .u64 (b.due : Int)] 64)).drewN nq) (.int .i64 (b.name : Int)) 3
          rwa [e] at h
        have HN : Hid (n ≤ 1000000) := Lib.hid (by have := HL.out; have := hfew.out; omega)
        have HB4 : Hid (w1.heap.size + 1 ≤ (((w2.alloc (.cells #[.int .u64 (b.every : Int), .int .u64 (b.due : Int)] 64)).drewN nq).alloc (.cells #[.int .i64 (b.name : Int)] 3)).heap.size) := Lib.hid (Nat.le_trans HZ3.out kB.size)
        have G4 := Lib.hid (HG.out.put HB.out.1 HD.out HB.out.2.1 HB.out.2.2)
        have I4 : Hid (∀ w4, Turned (fun x => (Value.slice A n c).ownBlock = some x) (((w2.alloc (.cells #[.int .u64 (b.every : Int), .int .u64 (b.due : Int)] 64)).drewN nq).alloc (.cells #[.int .i64 (b.name : Int)] 3)) w4 → ItA w4 mb w1.heap.size l left2 cnt2) := Lib.hid fun w4 t4 => (I3.out.turned (Turned.of_keep (F := fun _ => False) kB) (fun e => e) (fun e => e)).turned t4 (fun e => by have := (o4.low _ e).1; have := HM.out.1; have := S1.out; omega) (fun e => by have := (o4.low _ e).1; omega)
        have K4 : Hid (∀ w4, Turned (fun x => (Value.slice A n c).ownBlock = some x) (((w2.alloc (.cells #[.int .u64 (b.every : Int), .int .u64 (b.due : Int)] 64)).drewN nq).alloc (.cells #[.int .i64 (b.name : Int)] 3)) w4 → Keep w1 w4) := Lib.hid fun w4 t4 => t4.keep (K3.out.trans kB) fun x e => by have := (o4.low x e).1; omega
        clear kB d0 d1 d2
        go_wp2_with (at_builtin; refine wpList_append_int rfl _ _ rfl rfl o4 rfl hc4 HN.out HB4.out ?_; intro A4 c4 w4 o5 t5)
        have HII := Lib.hid (I4.out w4 t5)
        have HO5 := Lib.hid o5
        have HK5 := Lib.hid (K4.out w4 t5)
        have HS5 : Hid (w1.heap.size + 1 ≤ w4.heap.size) := Lib.hid (Nat.le_trans HB4.out t5.size)
        clear o5 t5 o4 hc4
        go_roundw
        case rel => exact ⟨n + 1, c4, cnt2, A4, zs ++ [(b.name : Int)], left2, rfl, HII.out, G4.out, HO5.out, HK5.out, HS5.out, by have := HL.out; have := L3.out; omega⟩
        case measure =>
          rw [HII.out.left_eq, IT.out.left_eq]
          exact L3.out
      · have b1 : decide ((b.due : Int) ≤ (clk : Int)) = false := decide_eq_false (by omega)
        have b2 : decide (b.due ≤ clk) = false := decide_eq_false hd
        have HD := Lib.hid hd
        clear hd
        go_wp2_with fail
        go_quiet (fail)
        have kB : Keep (w2.alloc (.cells #[.int .u64 (b.every : Int), .int .u64 (b.due : Int)] 64)) ((w2.alloc (.cells #[.int .u64 (b.every : Int), .int .u64 (b.due : Int)] 64)).drewN nq) := (Keep.refl (w2.alloc (.cells #[.int .u64 (b.every : Int), .int .u64 (b.due : Int)] 64))).drewN nq
        have HII := Lib.hid (I3.out.turned (Turned.of_keep (F := fun _ => False) kB) (fun e => e) (fun e => e))
        have HO5 := Lib.hid (O3.out.keep kB)
        have HK5 := Lib.hid (K3.out.trans kB)
        have G4 := Lib.hid (HG.out.pass hR.out HB.out.1 HD.out HB.out.2.2)
        have HS5 : Hid (w1.heap.size + 1 ≤ ((w2.alloc (.cells #[.int .u64 (b.every : Int), .int .u64 (b.due : Int)] 64)).drewN nq).heap.size) := Lib.hid (Nat.le_trans HZ3.out kB.size)
        clear kB d0 d1 d2
        go_wp2_with fail
        go_roundw
        case rel => exact ⟨n, c, cnt2, A, zs, left2, rfl, HII.out, G4.out, HO5.out, HK5.out, HS5.out, by have := HL.out; have := L3.out; omega⟩
        case measure =>
          rw [HII.out.left_eq, IT.out.left_eq]
          exact L3.out
end Go.Proofs.Ytjjoieahodfikaa
/- The landed timers: Tick. -/
namespace Go.Proofs.Ytjjoieahodfikaa
open Go.RowKit Go.Maps Tmr
set_option linter.unusedVariables false
set_option linter.unusedSimpArgs false
set_option maxRecDepth 100000
/-- What Tick tells, what it leaves. -/
def tickE (clk n : Nat) : Int := if maxT < clk + n then 1 else 0
def tickC (clk n : Nat) : Nat := if maxT < clk + n then clk else clk + n
def tickZ (clk : Nat) (l : List Alarm) (n : Nat) : List Int := if maxT < clk + n then [] else namesZ (dueL (clk + n) l)
def tickR (clk : Nat) (l : List Alarm) (n : Nat) : List Alarm := if maxT < clk + n then l else tickL (clk + n) l
/-- The first i of them are due anew. -/
def againN (c : Nat) (d l : List Alarm) (i : Nat) : List Alarm := (d.take i).foldl (fun l a => againL c a.name l) l
theorem againN_succ {c : Nat} {d l : List Alarm} {i : Nat} {a : Alarm} (h : d[i]? = some a) : againN c d l (i + 1) = againL c a.name (againN c d l i) := by
  unfold againN
  rw [List.take_add_one, h]
  simp
theorem againL_in {c n m : Nat} {l : List Alarm} (h : isIn m l) : isIn m (againL c n l) := by
  obtain ⟨a, ha, e⟩ := h
  refine ⟨_, List.mem_map.2 ⟨a, ha, rfl⟩, ?_⟩
  split <;> exact e
theorem againN_in {c m : Nat} {d l : List Alarm} (i : Nat) (h : isIn m l) : isIn m (againN c d l i) := by
  unfold againN
  generalize d.take i = k
  induction k generalizing l with
  | nil => exact h
  | cons a k ih => exact ih (againL_in h)
/-- Again, of an alarm that is there, in tlay's words. -/
theorem tlay_again {w : World} {B g mb clk : Nat} {l : List Alarm} (h : TmL w B g mb clk l) {a : Alarm} (ha : a ∈ l) :
    Calls Try.prog 24 #[.pointer (some ⟨g, 0, none⟩), .int .i64 (a.name : Int), .int .u64 (a.every : Int)] w fun r w' => r = .returned (.tuple #[]) ∧ TmL w' B g mb clk (againL clk a.name l) ∧ Turned (fun b => b = mb) w w' := by
  have hfa := h.fine a ha
  have hd := h.map.turned (Turned.of_keep (F := fun _ => False) (Keep.refl w).drew) (fun e => e)
  have hp := hd.put_old (anew clk a) ⟨a, ha, rfl⟩ (by show a.name < _; exact hfa.1) (by have := h.few; omega)
  rw [putL_anew h.rising ha] at hp
  exact tlay h (anew clk a) hfa.2.2.1 rfl (againL clk a.name l) (rising_againL h.rising) (fine_again h.fine) (by rw [againL_length]; exact h.few) hp
set_option maxHeartbeats 2000000 in
theorem ttick_any {w : World} {B g mb clk : Nat} {l : List Alarm} (h : TmL w B g mb clk l) (n : Nat) (hn : n < 18446744073709551616) (hf : l.length ≤ 100000) :
    Calls Try.prog 16 #[.pointer (some ⟨g, 0, none⟩), .int .u64 (n : Int)] w fun r w' => ∃ A m c, r = .returned (.tuple #[.slice A m c, .int .i64 (tickE clk n)]) ∧ OwnZ w' w.heap.size A m c (tickZ clk l n) ∧ TmL w' B g mb (tickC clk n) (tickR clk l n) ∧ Turned (FpT g mb) w w' := by
  have CM := Lib.hid (tmade h)
  have c0 := h.c0
  have hc := h.clock
  obtain ⟨s, hs⟩ : ∃ s, maxT - clk = s := ⟨_, rfl⟩
  have e1 : IntKind.u64.wrap ((1099511627776 : Int) - (clk : Int)) = (s : Int) := by unfold maxT at hc hs; rw [IntWalk.u64_in _ (by omega)]; omega
  by_cases hb : maxT < clk + n
  · have b1 : decide ((s : Int) < (n : Int)) = true := decide_eq_true (by omega)
    have b2 : decide (s < n) = true := decide_eq_true (by omega)
    rw [show tickE clk n = 1 from if_pos hb, show tickZ clk l n = [] from if_pos hb, show tickC clk n = clk from if_pos hb, show tickR clk l n = l from if_pos hb]
    have H := Lib.hid h
    clear h hc hs hb hn
    go_enter Try.func16, Try.ntmps16
    go_wp2_with fail
    refine CM.out.mono ?_
    rintro e w1 ⟨rfl, hw⟩
    obtain rfl : w = w1 := hw.symm
    go_wp2_with fail
    go_ret2
    exact ⟨none, 0, 0, rfl, OwnZ.none_ _ _, H.out, Turned.refl _ _⟩
  · have b1 : decide ((s : Int) < (n : Int)) = false := decide_eq_false (by omega)
    have b2 : decide (s < n) = false := decide_eq_false (by omega)
    rw [show tickE clk n = 0 from if_neg hb, show tickZ clk l n = namesZ (dueL (clk + n) l) from if_neg hb, show tickC clk n = clk + n from if_neg hb, show tickR clk l n = tickL (clk + n) l from if_neg hb]
    obtain ⟨k, hk⟩ : ∃ k, clk + n = k := ⟨_, rfl⟩
    have e2 : IntKind.u64.wrap ((clk : Int) + (n : Int)) = (k : Int) := by unfold maxT at hb; rw [IntWalk.u64_in _ (by omega)]; omega
    rw [hk]
    have f0 := h.f0
    obtain ⟨w1, hw1⟩ : ∃ w1, w.setCell ⟨g, 0, none⟩ (.int .u64 (k : Int)) = w1 := ⟨_, rfl⟩
    have t1 : Turned (fun b => b = g) w w1 := hw1 ▸ Turned.set (F := fun b => b = g) w ⟨g, 0, none⟩ _ rfl
    have h1 : TmL w1 B g mb k l := ⟨by rw [← hw1]; simp [World.setCell, Array.getElem?_modify, h.block], h.map.turned t1 h.ap, h.ap, h.low, h.rising, by omega, h.fine, h.few⟩
    have CD := Lib.hid (tdue_any h1)
    have T1 := Lib.hid t1
    have H1 := Lib.hid h1
    obtain ⟨d, hd⟩ : ∃ d, dueL k l = d := ⟨_, rfl⟩
    have hin : Hid (∀ a ∈ d, isIn a.name l) := Lib.hid fun a ha => ⟨a, ((mem_dueL h.rising).1 (hd ▸ ha)).1, rfl⟩
    have hend : Hid (againN k d l d.length = tickL k l) := Lib.hid (by unfold againN; rw [List.take_length, ← hd]; exact tick_fold h.rising)
    rw [hd] at CD ⊢
    have LW := Lib.hid (And.intro h.lt h.mlt)
    have hdl : Hid (d.length ≤ 100000) := Lib.hid (by rw [← hd, (dueL_perm h.rising).length_eq]; exact Nat.le_trans (List.length_filter_le _ _) h.few)
    clear h hc hs hb hn hk h1 t1 hd
    subst hw1
    go_enter Try.func16, Try.ntmps16
    go_wp2_with fail
    refine CM.out.mono ?_
    rintro e w2 ⟨rfl, hw⟩
    obtain rfl : w = w2 := hw.symm
    go_wp2_with fail
    refine CD.out.mono ?_
    rintro e w2 ⟨A, m, c, rfl, o2, k2⟩
    have hm := o2.length
    have hm : d.length = m := by rw [← hm]; simp [namesZ]
    have HMD := Lib.hid hm
    have hml : m ≤ 100000 := by have := hdl.out; omega
    have O2 : Hid (OwnZ w2 w.heap.size A m c (namesZ d)) := Lib.hid (by
      have e : (w.setCell ⟨g, 0, none⟩ (.int .u64 (k : Int))).heap.size = w.heap.size := by simp [World.setCell]
      rw [e] at o2; exact o2)
    have H2 := Lib.hid (H1.out.keep k2)
    have T2 := Lib.hid (T1.out.trans (Turned.of_keep (F := fun _ => False) k2) fun i e => e.elim)
    clear o2 k2 hm
    go_wp2_with fail
    go_loopw [31] (fun iv wr => ∃ i : Nat, i ≤ m ∧ iv = .int .i64 i ∧ TmL wr B g mb k (againN k d l i) ∧ OwnZ wr w.heap.size A m c (namesZ d) ∧ Turned (FpT g mb) w wr) (fun iv _ => m - (intOf iv).toNat)
    case atStart => exact ⟨0, by omega, rfl, H2.out, O2.out, T2.out.mono fun i _ e => Or.inl e⟩
    case round =>
      obtain ⟨i, hi, rfl, hr, ho, ht⟩ := hrel
      have HO := Lib.hid ho
      have HT := Lib.hid ht
      by_cases hlt : i < m
      · obtain ⟨gb, z, rfl, _, hgb, hz, hcell⟩ := ho.at_ hlt
        rw [Nat.zero_add] at hcell
        have hdi := List.getElem?_eq_getElem (l := d) (i := i) (by have := HMD.out; omega)
        obtain ⟨a, hda⟩ : ∃ a, d[i]? = some a := ⟨_, hdi⟩
        have hza : z = (a.name : Int) := by
          unfold namesZ at hz
          rw [List.getElem?_map, hda] at hz
          simpa using hz.symm
        subst hza
        obtain ⟨a', ha', hn'⟩ := againN_in (c := k) (d := d) i (hin.out a (List.mem_of_getElem? hda))
        have lk := (hr.map.look_in ha' (hr.fine a' ha').1).2
        have CL := tlay_again hr ha'
        rw [hn', ← againN_succ hda] at CL
        rw [hn'] at lk
        unfold almC at lk
        have HCL := Lib.hid CL
        have c1 := hr.c1
        have g0 : (0 : Int) ≤ (i : Int) := Int.natCast_nonneg _
        have g1 : (i : Int) < (m : Int) := by omega
        have fe := field_every a'.every a'.due wr
        have HLT := Lib.hid hlt
        clear CL hda hdi hz ha' hn' hr ho ht hgb hlt
        go_wp2_with fail
        refine HCL.out.mono ?_
        rintro e w3 ⟨rfl, h3, t3⟩
        have H3 := Lib.hid h3
        have O3 := Lib.hid (HO.out.turned t3 fun x hx e => by have := (HO.out.low x hx).1; have := LW.out.2; omega)
        have T3 := Lib.hid (HT.out.trans t3 fun x e => Or.inl (Or.inr e))
        clear h3 t3
        go_wp2_with fail
        go_roundw
        case rel => exact ⟨i + 1, by have := HLT.out; omega, by go_num, H3.out, O3.out, T3.out⟩
        case measure => simp [intOf]; have := HLT.out; omega
      · obtain rfl : i = m := by omega
        have HR := Lib.hid hr
        clear hr ho ht
        go_wp2_with fail
        go_ret2
        exact ⟨A, i, c, rfl, HO.out, (by have h := HR.out; rw [← HMD.out, hend.out] at h; exact h), HT.out⟩
end Go.Proofs.Ytjjoieahodfikaa
