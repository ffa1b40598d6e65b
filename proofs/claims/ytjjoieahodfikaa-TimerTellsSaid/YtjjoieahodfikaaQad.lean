/- The landed timers: going through the map's alarms; ints of one's own, sorted. -/
import Derived.Test.YtjjoieahodfikaaQab
import Derived.Test.YtjjoieahodfikaaTlay
import Derived.Sort.OwnSortedInts
import Derived.Deep.DeepCutAuto
import Derived.StillTailTactics
import Derived.Lib.SortBridge
import Derived.BigQuiet
import Derived.Laws.EntriesVeiled
import Derived.Test.YtjjoieahodfikaaQaa
namespace Go.Proofs.Ytjjoieahodfikaa
open Go.RowKit Go.Maps Tmr
set_option linter.unusedVariables false
set_option linter.unusedSimpArgs false
set_option maxRecDepth 100000
/-- Two lists that rise with the same members are one. -/
theorem strict_unique {α : Type} {R : α → α → Prop} (hA : ∀ a b, R a b → ¬ R b a) : ∀ {l k : List α}, l.Pairwise R → k.Pairwise R → (∀ x, x ∈ l ↔ x ∈ k) → l = k
  | [], [], _, _, _ => rfl
  | [], b :: k, _, _, h => absurd ((h b).2 List.mem_cons_self) (by simp)
  | a :: l, [], _, _, h => absurd ((h a).1 List.mem_cons_self) (by simp)
  | a :: l, b :: k, hl, hk, h => by
    rw [List.pairwise_cons] at hl hk
    have ir : ∀ x, ¬ R x x := fun x hx => hA x x hx hx
    have hab : a = b := by
      rcases List.mem_cons.1 ((h a).1 List.mem_cons_self) with e | ha
      · exact e
      · rcases List.mem_cons.1 ((h b).2 List.mem_cons_self) with e | hb
        · exact e.symm
        · exact absurd (hk.1 a ha) (hA _ _ (hl.1 b hb))
    subst hab
    rw [strict_unique hA hl.2 hk.2 fun x => ⟨fun hx => ?_, fun hx => ?_⟩]
    · rcases List.mem_cons.1 ((h x).1 (List.mem_cons_of_mem _ hx)) with e | h2
      · subst e; exact absurd (hl.1 x hx) (ir x)
      · exact h2
    · rcases List.mem_cons.1 ((h x).2 (List.mem_cons_of_mem _ hx)) with e | h2
      · subst e; exact absurd (hk.1 x hx) (ir x)
      · exact h2
theorem sameKey_int {x y : Int} (hx : (Lit.int .i64 x).wf = true) : (Lit.int .i64 y).sameKey (.int .i64 x) = decide (y = x) := by
  by_cases e : y = x
  · subst e
    rw [WideAt.sameKey_self (keyedI.key (keyI hx))]; simp
  · rw [sameKey_ne (fun h => e (lit_in h))]; simp [e]
/-- Going through the map: what is left, how many. -/
def ItA (w : World) (mb r : Nat) (l : List Alarm) (left : Lit → Bool) (cnt : Nat) : Prop :=
  ∃ D : DataW Unit, w.ranges Try.prog 3 almE mb r l.length D left cnt ∧ size D = l.length ∧ (∀ a ∈ l, ∀ z, D.atKey (.int .i64 (a.name : Int)) z = almD a.every a.due) ∧ ∀ x : Int, (∀ a ∈ l, (a.name : Int) ≠ x) → has D (.int .i64 x) = false
namespace ItA
variable {w w' : World} {mb r cnt : Nat} {l : List Alarm} {left : Lit → Bool}
theorem map (h : ItA w mb r l left cnt) : MapA w mb l := by obtain ⟨D, h1, h2⟩ := h; exact ⟨D, h1.owns, h2⟩
theorem lt (h : ItA w mb r l left cnt) : r < w.heap.size := by obtain ⟨D, h1, h2⟩ := h; exact h1.lt
theorem block (h : ItA w mb r l left cnt) (e : w'.heap[mb]? = w.heap[mb]?) (e2 : w'.heap[r]? = w.heap[r]?) : ItA w' mb r l left cnt := by
  obtain ⟨D, ⟨es, clock, since, seen, c0, hb, F, hs, hD, hr, rest⟩, h2⟩ := h
  exact ⟨D, ⟨es, clock, since, seen, c0, e.trans hb, F, hs, hD, e2.trans hr, rest⟩, h2⟩
theorem turned {F : Nat → Prop} (h : ItA w mb r l left cnt) (t : Turned F w w') (h1 : ¬ F mb) (h2 : ¬ F r) : ItA w' mb r l left cnt := h.block (t.block mb h.map.lt h1) (t.block r h.lt h2)
theorem left_eq (h : ItA w mb r l left cnt) : w.rangeLeft mb r = cnt := by obtain ⟨D, h1, _⟩ := h; exact h1.left_eq
end ItA
section
variable {w : World} {ops : Array Oper} {rest : List Oper} {o : Oper} {a : Act} {Q : Exit → Act → World → Prop} {mb r cnt : Nat} {l : List Alarm} {left : Lit → Bool}
theorem wpList_range_al (hg : o.guard = none) (m : Operand) (hop : o.op = Op.range 60 m) (hm : a.eval m = .map (some mb)) (h : MapA w mb l)
    (hK : ∀ w' left, (∀ b ∈ l, left (.int .i64 (b.name : Int)) = true) → ItA w' mb w.heap.size l left l.length → Keep w w' → w'.heap.size = w.heap.size + 1 → wpList Try.prog ops Q rest (a.put o.dst (.pointer (some ⟨w.heap.size, 0, none⟩))) w') :
    wpList Try.prog ops Q (o :: rest) a w := by
  obtain ⟨D, h1, h2, h3, h4⟩ := h
  refine wpList_range_own w hg m 60 hop 3 64 keyedI undM almE mb l.length D hm h1 fun w' r1 r2 r3 => ?_
  rw [h2] at r1
  exact hK w' _ (fun b hb => has_true_of_atKey (fun z => h3 b hb z)) ⟨D, r1, h2, h3, h4⟩ (Turned.keep_new (Turned.of_grown (F := fun _ => False) r2 fun i e => nomatch e) fun i e => e.elim) r3
theorem wpList_next_al (hg : o.guard = none) (it : Operand) (hop : o.op = Op.next it false) (hit : a.eval it = .pointer (some ⟨r, 0, none⟩)) (h : ItA w mb r l left cnt)
    (hDone : cnt = 0 → (∀ kl, left kl = false) → wpList Try.prog ops Q rest (a.put o.dst (.tuple #[.bool false])) w)
    (hMore : ∀ (b : Alarm) (w' : World) (left' : Lit → Bool) (cnt' : Nat), b ∈ l → left (.int .i64 (b.name : Int)) = true → (∀ c ∈ l, left' (.int .i64 (c.name : Int)) = (left (.int .i64 (c.name : Int)) && !decide (c.name = b.name))) → ItA w' mb r l left' cnt' → cnt' < cnt →
      Turned (fun x => x = r) w w' → w'.heap.size = w.heap.size → (Instr.entry (.pointer (some ⟨r, 0, none⟩))).run Try.prog w' = .ok (.tuple #[.int .i64 (b.name : Int), almC b.every b.due]) w' → wpList Try.prog ops Q rest (a.put o.dst (.tuple #[.bool true, .int .i64 (b.name : Int), almC b.every b.due])) w') :
    wpList Try.prog ops Q (o :: rest) a w := by
  obtain ⟨D, h1, h2, h3, h4⟩ := h
  refine wpList_next_ranges w hg it hop 3 keyedI almE (Value.int .i64) (fun p : Int × Int => .agg #[.int .u64 p.1, .int .u64 p.2])
    (fun key kl hkey => by obtain ⟨x, rfl, _⟩ := Maps.keyOf_int_inv Try.underlying3 hkey; exact ⟨x, rfl⟩) (fun v y hv => by obtain ⟨e, d, rfl, _⟩ := almE_inv hv; exact ⟨(e, d), rfl⟩)
    mb r l.length D left cnt hit h1 hDone fun x p kl y w' cnt' hkey hlk hv hat hrg hlt hgr hsz hen => ?_
  obtain ⟨x', ex, rfl, hwx⟩ := Maps.keyOf_int_inv Try.underlying3 hkey
  cases ex
  have hin : ∃ b ∈ l, (b.name : Int) = x := by
    by_cases e : ∃ b ∈ l, (b.name : Int) = x
    · exact e
    · have := h4 x fun b hb hn => e ⟨b, hb, hn⟩
      rw [has_true_of_atKey hat] at this; cases this
  obtain ⟨b, hb, rfl⟩ := hin
  obtain ⟨e, d, e1, e2⟩ := almE_inv hv
  have e3 := hat (.lit (.bool true))
  rw [h3 b hb, e2] at e3
  obtain ⟨e4, e5⟩ := almD_inj e3
  obtain ⟨p1, p2⟩ := p
  have e6 : p1 = e ∧ p2 = d := by simpa using e1
  obtain ⟨rfl, rfl⟩ := e6
  subst e4 e5
  exact hMore b w' _ cnt' hb hlk (fun c hc => by
    show (left _ && !(Lit.int .i64 (c.name : Int)).sameKey (.int .i64 (b.name : Int))) = _
    rw [sameKey_int hwx]
    congr 2
    by_cases e : c.name = b.name <;> simp [e]; omega) ⟨D, hrg, h2, h3, h4⟩ hlt (Turned.of_grown hgr fun i e => (Option.some.inj e).symm) hsz hen
end
/-- Ints of one's own. -/
def zV (zs : List Int) : List Value := zs.map (Value.int .i64)
theorem infoI : (Try.prog.info? 3).map (fun i => (i.zero, i.size, i.bytes)) = some (some (.int .i64 0), 1, 8) := by kernel_rfl
def OwnZ (w : World) (base : Nat) (A : Option Addr) (n c : Nat) (zs : List Int) : Prop := w.ownsRow base 3 1 (.slice A n c) n (zV zs)
namespace OwnZ
variable {w w' : World} {base n c : Nat} {A : Option Addr} {zs : List Int}
theorem none_ (w : World) (base : Nat) : OwnZ w base none 0 0 [] := World.ownsRow_nil w base 3 1
theorem length (h : OwnZ w base A n c zs) : zs.length = n := by have := h.1; simpa [zV] using this
theorem low (h : OwnZ w base A n c zs) : ∀ b, (Value.slice A n c).ownBlock = some b → base ≤ b ∧ b < w.heap.size := fun b hb => World.ownsRow.lt h b hb
theorem turned {F : Nat → Prop} (h : OwnZ w base A n c zs) (t : Turned F w w') (hn : ∀ b, (Value.slice A n c).ownBlock = some b → ¬ F b) : OwnZ w' base A n c zs := t.owns h hn
theorem keep (h : OwnZ w base A n c zs) (t : Keep w w') : OwnZ w' base A n c zs := h.turned (Turned.of_keep (F := fun _ => False) t) fun _ _ e => e
/-- One of them. -/
theorem at_ (h : OwnZ w base A n c zs) {i : Nat} (hi : i < n) : ∃ g z, A = some ⟨g, 0, none⟩ ∧ base ≤ g ∧ g < w.heap.size ∧ zs[i]? = some z ∧ w.cell? ⟨g, 0 + i, none⟩ = some (.int .i64 z) := by
  have hl := h.length
  rcases h.2 with ⟨_, h0⟩ | ⟨g, cap, cur, hv, hg, hh, _⟩
  · omega
  · injection hv with h1 _ _
    subst h1
    have hz := List.getElem?_eq_getElem (l := zs) (i := i) (by omega)
    refine ⟨g, _, rfl, hg, (Array.getElem?_eq_some_iff.1 hh).1, hz, ?_⟩
    have := World.ownsRow.cellAt h i (by omega)
    rw [Nat.zero_add, this]
    show (zV zs)[i]? = _
    rw [zV, List.getElem?_map, hz]; rfl
end OwnZ
section
variable {P : Program}
/-- append(ints, one). -/
theorem wpList_append_int {w : World} {ops : Array Oper} {rest : List Oper} {o : Oper} {a : Act} {Q : Exit → Act → World → Prop} (hgd : o.guard = none) (s x : Operand)
    (ho : o.op = .call { callee := .builtin .append, args := #[s, x], argTypes := #[38, 38] }) {base n c cx : Nat} {A : Option Addr} {zs : List Int} {ad : Addr} {y : Int}
    (hs : a.eval s = .slice A n c) (hown : OwnZ w base A n c zs) (hx0 : a.eval x = .slice (some ad) 1 cx) (hx : w.cell? ad = some (.int .i64 y)) (hlen : n ≤ 1000000) (hbase : base ≤ w.heap.size)
    (h : ∀ A2 c2 w', OwnZ w' base A2 (n + 1) c2 (zs ++ [y]) → Turned (fun b => (Value.slice A n c).ownBlock = some b) w w' → wpList Try.prog ops Q rest (a.put o.dst (.slice A2 (n + 1) c2)) w') : wpList Try.prog ops Q (o :: rest) a w := by
  refine wpList_plain hgd fun K hK => ?_
  obtain ⟨i0, hi0, hz0, hz1, hz2⟩ := info_parts infoI
  obtain ⟨v', w', hrun, h2, h3, _, _⟩ := run_append_own_at (P := Try.prog) w base 38 o.type 3 i0 (.int .i64 0) 1 8 Try.underlying38 hi0 hz0 hz1 hz2 rfl (by decide) _ n (zV zs) hown ad 1 cx [.int .i64 y] rfl
    (fun j u hu => by
      match j, hu with
      | 0, hu =>
        simp at hu
        subst hu
        have ha : ad.add 0 = ad := by unfold Addr.add; split <;> simp_all
        rw [ha]; exact hx)
    (fun u hu => by simp at hu; subst hu; rfl) (by unfold maxLen; omega) (by omega) hbase
  obtain ⟨A2, c2, rfl⟩ := own_shape h2
  unfold Oper.wp execOp
  simp only [ho, resolve, invoke, builtin, Sem.run_bind, Sem.run_pure, Result.andThen_ok, List.map_toArray, List.map_cons, List.map_nil, hs, hx0, hrun]
  refine hK _ _ (h A2 c2 w' ?_ (Turned.of_grown h3 fun i e => e))
  unfold OwnZ zV
  rw [List.map_append]; exact h2
end
end Go.Proofs.Ytjjoieahodfikaa
/- The landed timers: Names. -/
namespace Go.Proofs.Ytjjoieahodfikaa
open Go.RowKit Go.Maps Tmr
set_option linter.unusedVariables false
set_option linter.unusedSimpArgs false
set_option maxRecDepth 100000
/-- What has been gone through, of those with p. -/
structure GoneZ (l : List Alarm) (p : Alarm → Prop) (left : Lit → Bool) (zs : List Int) : Prop where
  nodup : zs.Nodup
  some_ : ∀ z ∈ zs, ∃ a ∈ l, p a ∧ (a.name : Int) = z ∧ left (.int .i64 z) = false
  all : ∀ a ∈ l, p a → left (.int .i64 (a.name : Int)) = false → (a.name : Int) ∈ zs
theorem GoneZ.start {l : List Alarm} {p : Alarm → Prop} {left : Lit → Bool} (h : ∀ b ∈ l, left (.int .i64 (b.name : Int)) = true) : GoneZ l p left [] :=
  ⟨List.nodup_nil, fun z hz => (nomatch hz), fun a ha _ e => by rw [h a ha] at e; cases e⟩
section
variable {l : List Alarm} {p : Alarm → Prop} {left left' : Lit → Bool} {zs : List Int} {b : Alarm}
theorem GoneZ.put (h : GoneZ l p left zs) (hb : b ∈ l) (hp : p b) (hl : left (.int .i64 (b.name : Int)) = true) (h' : ∀ c ∈ l, left' (.int .i64 (c.name : Int)) = (left (.int .i64 (c.name : Int)) && !decide (c.name = b.name))) : GoneZ l p left' (zs ++ [(b.name : Int)]) :=
  by
  refine ⟨?_, fun z hz => ?_, fun a ha hpa e => ?_⟩
  · rw [List.nodup_append]
    refine ⟨h.nodup, by simp, fun x hx y hy e => ?_⟩
    obtain ⟨a, ha, _, hn, hf⟩ := h.some_ x hx
    simp at hy
    subst hy
    rw [e, hl] at hf; cases hf
  · rcases List.mem_append.1 hz with hz | hz
    · obtain ⟨a, ha, hpa, hn, hf⟩ := h.some_ z hz
      subst hn
      exact ⟨a, ha, hpa, rfl, by rw [h' a ha, hf]; rfl⟩
    · simp at hz
      subst hz
      exact ⟨b, hb, hp, rfl, by rw [h' b hb]; simp⟩
  · rw [h' a ha] at e
    by_cases hn : a.name = b.name
    · exact List.mem_append.2 (Or.inr (by simp [hn]))
    · simp [hn] at e
      exact List.mem_append.2 (Or.inl (h.all a ha hpa e))
theorem GoneZ.pass (h : GoneZ l p left zs) (hR : Rising l) (hb : b ∈ l) (hp : ¬ p b) (h' : ∀ c ∈ l, left' (.int .i64 (c.name : Int)) = (left (.int .i64 (c.name : Int)) && !decide (c.name = b.name))) : GoneZ l p left' zs :=
  by
  refine ⟨h.nodup, fun z hz => ?_, fun a ha hpa e => ?_⟩
  · obtain ⟨a, ha, hpa, hn, hf⟩ := h.some_ z hz
    subst hn
    exact ⟨a, ha, hpa, rfl, by rw [h' a ha, hf]; rfl⟩
  · rw [h' a ha] at e
    by_cases hn : a.name = b.name
    · obtain rfl := rising_inj hR ha hb hn
      exact absurd hpa hp
    · simp [hn] at e
      exact h.all a ha hpa e
theorem GoneZ.mem (h : GoneZ l p left zs) (hf : ∀ kl, left kl = false) (z : Int) : z ∈ zs ↔ ∃ a ∈ l, p a ∧ (a.name : Int) = z :=
  ⟨fun hz => by obtain ⟨a, ha, hp, hn, _⟩ := h.some_ z hz; exact ⟨a, ha, hp, hn⟩, fun ⟨a, ha, hp, hn⟩ => by subst hn; exact h.all a ha hp (hf _)⟩
end
def namesZ (l : List Alarm) : List Int := l.map fun a => (a.name : Int)
end Go.Proofs.Ytjjoieahodfikaa
/- The landed timers: the order of what is due: cmp.Compare, cmp.Or, the closure. -/
namespace Go.Proofs.Ytjjoieahodfikaa
open Go.RowKit Go.Maps Tmr
set_option linter.unusedVariables false
set_option linter.unusedSimpArgs false
set_option maxRecDepth 100000
/-- Less, more, neither. -/
def cmpI (a b : Int) : Int := if a < b then -1 else if b < a then 1 else 0
theorem ccmp_u64 (a b : Int) (w : World) : Calls Try.prog 31 #[.int .u64 a, .int .u64 b] w fun r w' => r = .returned (.int .i64 (cmpI a b)) ∧ w' = w := by
  have na : ∀ x : Int, Calls Try.prog 36 #[.int .u64 x] w fun r w' => r = .returned (.bool false) ∧ w' = w := fun x => by
    have d : (x != x) = false := by simp
    go_enter Try.func36, Try.ntmps36
    go_wp2_with fail
    go_ret
    exact ⟨rfl, rfl⟩
  have C1 := Lib.hid (na a)
  have C2 := Lib.hid (na b)
  clear na
  by_cases h1 : a < b
  · have d1 : decide (a < b) = true := decide_eq_true h1
    have e : cmpI a b = -1 := if_pos h1
    rw [e]
    clear h1 e
    go_enter Try.func31, Try.ntmps31
    go_wp2_with fail
    refine C1.out.mono ?_
    rintro e w1 ⟨rfl, rfl⟩
    go_wp2_with fail
    refine C2.out.mono ?_
    rintro e w1 ⟨rfl, rfl⟩
    go_wp2_with fail
    go_ret
    exact ⟨rfl, rfl⟩
  · have d1 : decide (a < b) = false := decide_eq_false h1
    by_cases h2 : b < a
    · have d2 : decide (b < a) = true := decide_eq_true h2
      have e : cmpI a b = 1 := by unfold cmpI; rw [if_neg h1, if_pos h2]
      rw [e]
      clear h1 h2 e
      go_enter Try.func31, Try.ntmps31
      go_wp2_with fail
      refine C1.out.mono ?_
      rintro e w1 ⟨rfl, rfl⟩
      go_wp2_with fail
      refine C2.out.mono ?_
      rintro e w1 ⟨rfl, rfl⟩
      go_wp2_with fail
      go_ret
      exact ⟨rfl, rfl⟩
    · have d2 : decide (b < a) = false := decide_eq_false h2
      have e : cmpI a b = 0 := by unfold cmpI; rw [if_neg h1, if_neg h2]
      rw [e]
      clear h1 h2 e
      go_enter Try.func31, Try.ntmps31
      go_wp2_with fail
      refine C1.out.mono ?_
      rintro e w1 ⟨rfl, rfl⟩
      go_wp2_with fail
      refine C2.out.mono ?_
      rintro e w1 ⟨rfl, rfl⟩
      go_wp2_with fail
      go_ret
      exact ⟨rfl, rfl⟩
theorem ccmp_int (a b : Int) (w : World) : Calls Try.prog 32 #[.int .i64 a, .int .i64 b] w fun r w' => r = .returned (.int .i64 (cmpI a b)) ∧ w' = w := by
  have na : ∀ x : Int, Calls Try.prog 37 #[.int .i64 x] w fun r w' => r = .returned (.bool false) ∧ w' = w := fun x => by
    have d : (x != x) = false := by simp
    go_enter Try.func37, Try.ntmps37
    go_wp2_with fail
    go_ret
    exact ⟨rfl, rfl⟩
  have C1 := Lib.hid (na a)
  have C2 := Lib.hid (na b)
  clear na
  by_cases h1 : a < b
  · have d1 : decide (a < b) = true := decide_eq_true h1
    have e : cmpI a b = -1 := if_pos h1
    rw [e]
    clear h1 e
    go_enter Try.func32, Try.ntmps32
    go_wp2_with fail
    refine C1.out.mono ?_
    rintro e w1 ⟨rfl, rfl⟩
    go_wp2_with fail
    refine C2.out.mono ?_
    rintro e w1 ⟨rfl, rfl⟩
    go_wp2_with fail
    go_ret
    exact ⟨rfl, rfl⟩
  · have d1 : decide (a < b) = false := decide_eq_false h1
    by_cases h2 : b < a
    · have d2 : decide (b < a) = true := decide_eq_true h2
      have e : cmpI a b = 1 := by unfold cmpI; rw [if_neg h1, if_pos h2]
      rw [e]
      clear h1 h2 e
      go_enter Try.func32, Try.ntmps32
      go_wp2_with fail
      refine C1.out.mono ?_
      rintro e w1 ⟨rfl, rfl⟩
      go_wp2_with fail
      refine C2.out.mono ?_
      rintro e w1 ⟨rfl, rfl⟩
      go_wp2_with fail
      go_ret
      exact ⟨rfl, rfl⟩
    · have d2 : decide (b < a) = false := decide_eq_false h2
      have e : cmpI a b = 0 := by unfold cmpI; rw [if_neg h1, if_neg h2]
      rw [e]
      clear h1 h2 e
      go_enter Try.func32, Try.ntmps32
      go_wp2_with fail
      refine C1.out.mono ?_
      rintro e w1 ⟨rfl, rfl⟩
      go_wp2_with fail
      refine C2.out.mono ?_
      rintro e w1 ⟨rfl, rfl⟩
      go_wp2_with fail
      go_ret
      exact ⟨rfl, rfl⟩
/-- cmp.Or of two. -/
theorem cor_two (a b : Int) (B : Nat) (w : World) (h0 : w.cell? ⟨B, 0, none⟩ = some (.int .i64 a)) (h1 : w.cell? ⟨B, 1, none⟩ = some (.int .i64 b)) :
    Calls Try.prog 30 #[.slice (some ⟨B, 0, none⟩) 2 2] w fun r w' => r = .returned (.int .i64 (if a = 0 then b else a)) ∧ w' = w := by
  by_cases ha : a = 0
  · subst ha
    rw [if_pos rfl]
    by_cases hb : b = 0
    · subst hb
      go_enter Try.func30, Try.ntmps30
      go_wp2_with fail
      refine wp_loop_rounds 3 ?_
      rw [rounds_succ]
      go_wp2_with fail
      rw [rounds_succ]
      go_wp2_with fail
      rw [rounds_succ]
      go_wp2_with fail
      go_ret
      exact ⟨rfl, rfl⟩
    · have d : (b != 0) = true := by rw [bne_iff_ne]; exact hb
      clear hb
      go_enter Try.func30, Try.ntmps30
      go_wp2_with fail
      refine wp_loop_rounds 2 ?_
      rw [rounds_succ]
      go_wp2_with fail
      rw [rounds_succ]
      go_wp2_with fail
      go_ret
      exact ⟨rfl, rfl⟩
  · have d : (a != 0) = true := by rw [bne_iff_ne]; exact ha
    rw [if_neg ha]
    clear ha
    go_enter Try.func30, Try.ntmps30
    go_wp2_with fail
    refine wp_loop_rounds 1 ?_
    rw [rounds_succ]
    go_wp2_with fail
    go_ret
    exact ⟨rfl, rfl⟩
/-- When an alarm of that name is due. -/
def dueOf (l : List Alarm) (x : Int) : Nat := match l.find? (fun a => decide ((a.name : Int) = x)) with | some a => a.due | none => 0
def cfT (l : List Alarm) (x y : Int) : Int := if cmpI (dueOf l x) (dueOf l y) = 0 then cmpI x y else cmpI (dueOf l x) (dueOf l y)
theorem MapA.dueOf {w : World} {B : Nat} {l : List Alarm} (h : MapA w B l) {x : Int} (wf : (Lit.int .i64 x).wf = true) :
    ∃ e : Nat, (Instr.lookup 60 (.map (some B)) (.int .i64 x) false).run Try.prog w = .ok (.agg #[.int .u64 (e : Int), .int .u64 (dueOf l x : Int)]) w := by
  unfold Go.Proofs.Ytjjoieahodfikaa.dueOf
  cases hf : l.find? (fun a => decide ((a.name : Int) = x)) with
  | none =>
    refine ⟨0, (h.look_out (fun a ha e => ?_) wf).2⟩
    have := List.find?_eq_none.1 hf a ha
    simp at this; exact this e
  | some a =>
    have h1 := List.mem_of_find?_eq_some hf
    have h2 := List.find?_some hf
    simp at h2
    subst h2
    exact ⟨a.every, (h.look_in h1 (by have := (i64_back wf).2; omega)).2⟩
theorem alloc_grow (w : World) (o : Obj) : w.alloc o = Go.Sort.grow w #[o] := by
  unfold World.alloc Go.Sort.grow
  rw [Array.push_eq_append]
theorem cells_two (W : World) (a b : Value) (t : TypeId) : (W.alloc (.cells #[a, b] t)).cell? ⟨W.heap.size, 0, none⟩ = some a ∧ (W.alloc (.cells #[a, b] t)).cell? ⟨W.heap.size, 1, none⟩ = some b := ⟨by simp, by simp⟩
theorem field_due (e d : Int) (w : World) : (Instr.field 64 (.agg #[.int .u64 e, .int .u64 d]) 1).run Try.prog w = .ok (.int .u64 d) w := by kernel_rfl
theorem field_every (e d : Int) (w : World) : (Instr.field 64 (.agg #[.int .u64 e, .int .u64 d]) 0).run Try.prog w = .ok (.int .u64 e) w := by kernel_rfl
set_option maxHeartbeats 1000000 in
theorem closure_any {w : World} {tb g mb : Nat} {l : List Alarm} (hc : w.cell? ⟨tb, 0, none⟩ = some (.pointer (some ⟨g, 0, none⟩))) (c1 : w.cell? ⟨g, 1, none⟩ = some (.map (some mb))) (hm : MapA w mb l) (x y : Int) (hx : (Lit.int .i64 x).wf = true) (hy : (Lit.int .i64 y).wf = true) :
    Calls Try.prog 29 #[.int .i64 x, .int .i64 y, .pointer (some ⟨tb, 0, none⟩)] w fun r w' => r = .returned (.int .i64 (cfT l x y)) ∧ ∃ q os, w' = Go.Sort.grow (w.drewN q) os := by
  have c0' : w.drew.cell? ⟨tb, 0, none⟩ = some (.pointer (some ⟨g, 0, none⟩)) := hc
  have c1' : w.drew.cell? ⟨g, 1, none⟩ = some (.map (some mb)) := c1
  have hmD := hm.turned (Turned.of_keep (F := fun _ => False) (Keep.refl w).drew) (fun e => e)
  obtain ⟨e1, l1⟩ := hmD.dueOf hx
  obtain ⟨e2, l2⟩ := hmD.dueOf hy
  obtain ⟨u, hu⟩ : ∃ u, cmpI (dueOf l x) (dueOf l y) = u := ⟨_, rfl⟩
  obtain ⟨v, hv⟩ : ∃ v, cmpI x y = v := ⟨_, rfl⟩
  have K1 := Lib.hid (ccmp_u64 (dueOf l x) (dueOf l y) w.drew)
  have K2 := Lib.hid (ccmp_int x y w.drew)
  have hF : cfT l x y = if u = 0 then v else u := by unfold cfT; rw [hu, hv]
  rw [hu] at K1
  rw [hv] at K2
  rw [hF]
  obtain ⟨p, hp⟩ : ∃ p, dueOf l x = p := ⟨_, rfl⟩
  obtain ⟨q, hq⟩ : ∃ q, dueOf l y = q := ⟨_, rfl⟩
  rw [hp] at l1 K1
  rw [hq] at l2 K1
  have K3 := Lib.hid (cor_two u v w.drew.heap.size (w.drew.alloc (.cells #[.int .i64 u, .int .i64 v] 3)) (cells_two w.drew _ _ _).1 (cells_two w.drew _ _ _).2)
  obtain ⟨z, hz⟩ : ∃ z, (if u = 0 then v else u) = z := ⟨_, rfl⟩
  rw [hz] at K3 ⊢
  have f1 := field_due e1 p w.drew
  have f2 := field_due e2 q w.drew
  clear hz hc c1 hm hmD hu hv hF hp hq hx hy
  go_enter Try.func29, Try.ntmps29
  go_wp2_with fail
  refine wp_region_still_tail (w := w) 18 (by kernel_rfl) (by kernel_rfl) ?_
  simp only [List.take_succ_cons, List.take_zero, List.drop_succ_cons, List.drop_zero]
  change wpStill _ _ (World.drew w) _ _ _
  iterate 14 still_step
  still_call K1.out
  iterate 2 still_step
  still_call K2.out
  refine wpStill_nil ?_
  change wpList _ _ _ _ _ (World.drew w)
  go_wp2_with fail
  refine K3.out.mono ?_
  rintro e w3 ⟨rfl, rfl⟩
  go_wp2_with fail
  go_ret
  exact ⟨rfl, 1, #[.cells #[.int .i64 u, .int .i64 v] 3], show (w.drewN 1).alloc (.cells #[.int .i64 u, .int .i64 v] 3) = _ from alloc_grow _ _⟩
end Go.Proofs.Ytjjoieahodfikaa
/- The landed timers: what is due, in order. -/
namespace Go.Proofs.Ytjjoieahodfikaa
open Go.RowKit Go.Maps Tmr Go.Sort
set_option linter.unusedVariables false
set_option linter.unusedSimpArgs false
set_option maxRecDepth 100000
/-- Ahead of, by names. -/
def ltT (l : List Alarm) (x y : Int) : Prop := dueOf l x < dueOf l y ∨ (dueOf l x = dueOf l y ∧ x < y)
instance (l : List Alarm) (x y : Int) : Decidable (ltT l x y) := by unfold ltT; infer_instance
theorem cfT_lt (l : List Alarm) (x y : Int) : cfT l x y < 0 ↔ ltT l x y := by
  unfold cfT cmpI ltT
  generalize dueOf l x = a
  generalize dueOf l y = b
  constructor
  · intro h
    split at h <;> (try split at h) <;> (try split at h) <;> omega
  · intro h
    split <;> (try split) <;> (try split) <;> omega
/-- Ints of 64 bits. -/
abbrev Z64 := {z : Int // (Lit.int .i64 z).wf = true}
instance : Inhabited Z64 := ⟨⟨0, by decide⟩⟩
def encZ (z : Z64) : Value := .int .i64 z.1
def cfZ (l : List Alarm) (x y : Z64) : Int := cfT l x.1 y.1
theorem ltZ (l : List Alarm) (x y : Z64) : ltOf (cfZ l) x y = decide (ltT l x.1 y.1) := by
  unfold ltOf cfZ
  exact decide_eq_decide.2 (cfT_lt l x.1 y.1)
theorem ltT_trans {l : List Alarm} {x y z : Int} (h1 : ltT l x y) (h2 : ltT l y z) : ltT l x z := by unfold ltT at *; omega
theorem ltT_ntrans {l : List Alarm} {x y z : Int} (h1 : ¬ ltT l x y) (h2 : ¬ ltT l y z) : ¬ ltT l x z := by unfold ltT at *; omega
theorem ltT_tot {l : List Alarm} {x y : Int} (h1 : ¬ ltT l x y) (h2 : ¬ ltT l y x) : x = y := by unfold ltT at *; omega
theorem ltT_one {l : List Alarm} (x y : Int) : ¬ ltT l x y ∨ ¬ ltT l y x := by unfold ltT; omega
theorem ltT_self {l : List Alarm} (x : Int) : ¬ ltT l x x := by unfold ltT; omega
theorem swoZ (l : List Alarm) : SWO (ltOf (cfZ l)) where
  irrefl x := by rw [ltZ]; exact decide_eq_false (ltT_self _)
  trans x y z h1 h2 := by rw [ltZ] at *; exact decide_eq_true (ltT_trans (of_decide_eq_true h1) (of_decide_eq_true h2))
  ntrans x y z h1 h2 := by rw [ltZ] at *; exact decide_eq_false (ltT_ntrans (of_decide_eq_false h1) (of_decide_eq_false h2))
theorem totZ (l : List Alarm) (x y : Z64) (h1 : ltOf (cfZ l) x y = false) (h2 : ltOf (cfZ l) y x = false) : x = y := by
  rw [ltZ] at *
  exact Subtype.ext (ltT_tot (of_decide_eq_false h1) (of_decide_eq_false h2))
theorem turned_sort {α : Type} [Inhabited α] (enc : α → Value) (w : World) (blk off m : Nat) (d : Array α) (os : Array Obj) : Turned (fun b => b = blk) w (sortWorld enc w blk off m d os) :=
  ⟨rfl, rfl, rfl, by simp [sortWorld], fun k hk hne => by
    unfold sortWorld
    rw [heap_grow_old _ _ (by simpa using hk)]
    have : blk ≠ k := fun e => hne e.symm
    simp [putRow, mapBlock, Sort.ahead, Array.getElem?_modify, this]⟩
theorem sortf_any {w : World} {base n c tb g mb : Nat} {A : Option Addr} {zs : List Int} {l : List Alarm} (h : OwnZ w base A n c zs) (hz : ∀ z ∈ zs, (Lit.int .i64 z).wf = true) (hn : n ≤ 1000000)
    (hc : w.cell? ⟨tb, 0, none⟩ = some (.pointer (some ⟨g, 0, none⟩))) (c1 : w.cell? ⟨g, 1, none⟩ = some (.map (some mb))) (hm : MapA w mb l) (hb : tb < base ∧ g < base ∧ mb < base) :
    Calls Try.prog 33 #[.slice A n c, .func (.func 29) #[] #[.pointer (some ⟨tb, 0, none⟩)]] w fun e w' => e = .returned (.tuple #[]) ∧ ∃ ys, OwnZ w' base A n c ys ∧ ys.Perm zs ∧ ys.Pairwise (fun x y => ¬ ltT l y x) ∧ Turned (fun b => (Value.slice A n c).ownBlock = some b) w w' := by
  by_cases h0 : n = 0
  · subst h0
    obtain rfl : zs = [] := List.eq_nil_of_length_eq_zero h.length
    refine (AnyF.slices_SortFunc_none (P := Try.prog) (ρ := sortL_ren) { sortL with } A c _ w).mono ?_
    rintro e w' ⟨rfl, rfl⟩
    exact ⟨rfl, [], h, List.Perm.refl _, List.Pairwise.nil, Turned.refl _ _⟩
  · have hl := h.length
    rcases h.2 with ⟨_, h1⟩ | ⟨gb, cap, cur, hv, hbase, hbk, h1, h2, h3, h4⟩
    · exact absurd h1 h0
    · injection hv with e1 _ e3
      subst e1 e3
      obtain ⟨d, hd⟩ : ∃ d : List Z64, d.map (·.1) = zs := ⟨zs.attachWith _ hz, by simp⟩
      have hdl : d.length = n := by rw [← hl, ← hd, List.length_map]
      have hHI : Holds (Value.int .i64) w gb 0 zs.toArray := holds_of_blockI hbk (by rw [hl]; simpa [zV] using h4)
      have hH : Holds encZ w gb 0 d.toArray := fun j hj => by
        have hj1 : j < d.length := by simpa using hj
        have hj2 : j < zs.length := by omega
        have := hHI j (by simpa using hj2)
        refine ⟨?_, this.2⟩
        rw [this.1]
        subst hd
        have hj3 : j < d.toArray.size := by simpa using hj1
        simp [encZ, hj1]
      have hlt := (Array.getElem?_eq_some_iff.1 hbk).1
      have hS := Any.slices_SortFunc_total sortL encZ (fun _ => rfl) (cfZ l) (swoZ l) 29 #[.pointer (some ⟨tb, 0, none⟩)] gb 0 c d.toArray w (enters_of Try.func29 (by kernel_rfl) rfl)
        (fun m os dk hs x y => by
          have t := turned_sort encZ w gb 0 m dk os
          exact closure_any (t.cell hc (by show ¬ tb = gb; omega)) (t.cell c1 (by show ¬ g = gb; omega)) (hm.turned t (by omega)) x.1 y.1 x.2 y.2) hH hlt (by simp; omega) (totZ l)
      rw [show d.toArray.size = n by simpa using hdl] at hS
      refine Calls.mono hS ?_
      rintro e w' ⟨rfl, m, os, rfl⟩
      obtain ⟨s, hs⟩ : ∃ s, (d.mergeSort fun x y => !(ltOf (cfZ l)) y x) = s := ⟨_, rfl⟩
      have hsp : s.Perm d := by rw [← hs]; exact List.mergeSort_perm _ _
      have hsl : s.length = n := by rw [hsp.length_eq, hdl]
      have hw : sortWorld encZ w gb 0 m (d.toArray.toList.mergeSort fun x y => !(ltOf (cfZ l)) y x).toArray os = Go.Sort.grow (putRow (Value.int .i64) (Sort.ahead w m) gb 0 (s.map (·.1)).toArray) os := by
        rw [show d.toArray.toList = d from rfl, hs]
        unfold sortWorld
        rw [Lib.sorted_world encZ w gb 0 m d.toArray s os hH (by simpa using hsl.trans hdl.symm), Lib.sorted_world (Value.int .i64) w gb 0 m zs.toArray (s.map (·.1)) os hHI (by simpa using hsl.trans hl.symm)]
        rw [List.map_map]; rfl
      rw [hw]
      refine ⟨rfl, s.map (·.1), ?_, by rw [← hd]; exact hsp.map _, ?_, Turned.of_grown (grownBy_sortedI _) fun i e => by injection e with e; subst e; rfl⟩
      · have := ownsRow_sortedI (w := w) (n := m) (os := os) (ss := zs) (ts := s.map (·.1)) (by simpa using hsl.trans hl.symm) hbase hbk (by omega) h2 h3
        rw [hl] at this
        exact this
      · rw [List.pairwise_map, ← hs]
        have hp := List.pairwise_mergeSort (le := fun x y : Z64 => !(ltOf (cfZ l)) y x) (fun a b c h1 h2 => by simp only [ltZ, Bool.not_eq_true', decide_eq_false_iff_not] at *; exact ltT_ntrans h2 h1) (fun a b => by simp only [ltZ, Bool.or_eq_true, Bool.not_eq_true', decide_eq_false_iff_not]; exact (ltT_one a.1 b.1).symm) d
        refine hp.imp fun {a b} hab => ?_
        rw [ltZ] at hab
        simpa using hab
/-- What is due, by names. -/
theorem due_sorted {l : List Alarm} {left : Lit → Bool} {zs ys : List Int} {clk : Nat} (h : GoneZ l (fun a => a.due ≤ clk) left zs) (hR : Rising l) (hf : ∀ kl, left kl = false) (hp : ys.Perm zs) (ho : ys.Pairwise (fun x y => ¬ ltT l y x)) : ys = namesZ (dueL clk l) := by
  have hdue : ∀ a ∈ l, dueOf l (a.name : Int) = a.due := fun a ha => by
    unfold dueOf
    cases hf : l.find? (fun b => decide ((b.name : Int) = (a.name : Int))) with
    | none => have := List.find?_eq_none.1 hf a ha; simp at this
    | some b =>
      have h1 := List.mem_of_find?_eq_some hf
      have h2 := List.find?_some hf
      simp at h2
      show b.due = a.due
      rw [rising_inj hR h1 ha (by omega)]
  refine strict_unique (R := ltT l) (fun a b h1 h2 => by unfold ltT at *; omega) ?_ ?_ fun x => ?_
  · have h2 : ys.Pairwise (fun a b => a ≠ b) := hp.nodup_iff.2 h.nodup
    exact (ho.and h2).imp fun {a b} hab => by have := hab.1; have := hab.2; unfold ltT at *; omega
  · unfold namesZ
    rw [List.pairwise_map]
    have := dueL_ordered (c := clk) hR
    unfold Ordered at this
    refine this.imp_of_mem fun {a b} ha hb hab => ?_
    have ha := ((mem_dueL hR).1 ha).1
    have hb := ((mem_dueL hR).1 hb).1
    unfold ltT
    rw [hdue a ha, hdue b hb]
    unfold Ahead at hab
    omega
  · rw [hp.mem_iff, h.mem hf]
    simp only [namesZ, List.mem_map]
    constructor
    · rintro ⟨a, ha, hd, hn⟩
      exact ⟨a, (mem_dueL hR).2 ⟨ha, hd⟩, hn⟩
    · rintro ⟨a, ha, hn⟩
      obtain ⟨h1, h2⟩ := (mem_dueL hR).1 ha
      exact ⟨a, h1, h2, hn⟩
end Go.Proofs.Ytjjoieahodfikaa
/- The landed timers: due. -/
namespace Go.Proofs.Ytjjoieahodfikaa
open Go.RowKit Go.Maps Tmr
set_option linter.unusedVariables false
set_option linter.unusedSimpArgs false
set_option maxRecDepth 100000
theorem cells_one (W : World) (a : Value) (t : TypeId) : (W.alloc (.cells #[a] t)).cell? ⟨W.heap.size, 0, none⟩ = some a := by simp
set_option maxHeartbeats 2000000 in
theorem tdue_any {w : World} {B g mb clk : Nat} {l : List Alarm} (h : TmL w B g mb clk l) :
    Calls Try.prog 27 #[.pointer (some ⟨g, 0, none⟩)] w fun r w' => ∃ A n c, r = .returned (.slice A n c) ∧ OwnZ w' w.heap.size A n c (namesZ (dueL clk l)) ∧ Keep w w' := by
  have hR := Lib.hid h.rising
  have hfew := Lib.hid h.few
  have hfine := Lib.hid h.fine
  have HM := Lib.hid (And.intro h.mlt h.lt)
  obtain ⟨w1, hw1⟩ : ∃ w1, w.alloc (.cells #[.pointer (some ⟨g, 0, none⟩)] 24) = w1 := ⟨_, rfl⟩
  have k1 : Keep w w1 := hw1 ▸ (Keep.refl w).alloc _ _
  have s1 : w1.heap.size = w.heap.size + 1 := by rw [← hw1]; simp
  have h1 := h.keep k1
  have ct : w1.cell? ⟨w.heap.size, 0, none⟩ = some (.pointer (some ⟨g, 0, none⟩)) := by rw [← hw1]; simp
  have c1 := h1.c1
  have c0 := h1.c0
  have hm := h1.map
  have K1 := Lib.hid k1
  have S1 := Lib.hid s1
  have C0 := Lib.hid c0
  have C1 := Lib.hid c1
  have CT := Lib.hid ct
  clear h h1 k1 s1 c0
  go_enter Try.func27, Try.ntmps27
  go_wp2_with (at_range; refine wpList_range_al rfl _ rfl rfl hm ?_; intro w0 left hl0 it0 k0 s0)
  go_frame
  have S0 := Lib.hid s0
  clear s0 hm c1 ct hw1
  go_loopw [4] (fun nv wr => ∃ (n c cnt : Nat) (A : Option Addr) (zs : List Int) (left : Lit → Bool), nv = .slice A n c ∧ ItA wr mb w1.heap.size l left cnt ∧ GoneZ l (fun a => a.due ≤ clk) left zs ∧ OwnZ wr (w1.heap.size + 1) A n c zs ∧ Keep w1 wr ∧ w1.heap.size + 1 ≤ wr.heap.size ∧ n + cnt ≤ l.length) (fun nv wr => wr.rangeLeft mb w1.heap.size)
  case atStart => exact ⟨0, 0, l.length, none, [], left, rfl, it0, GoneZ.start hl0, OwnZ.none_ _ _, k0, by have := S0.out; omega, by omega⟩
  case round =>
    obtain ⟨n, c, cnt, A, zs, left, rfl, it, hg, ho, kk, hsz, hle⟩ := hrel
    have HG := Lib.hid hg
    have HO := Lib.hid ho
    have HK := Lib.hid kk
    have HZ := Lib.hid hsz
    have HL := Lib.hid hle
    have IT := Lib.hid it
    clear hg ho kk hsz hle
    go_wp2_with (at_next; refine wpList_next_al rfl _ rfl rfl it ?_ ?_)
    · intro h0 hf
      have HF := Lib.hid hf
      have CS := Lib.hid (sortf_any (w := wr) (tb := w.heap.size) (g := g) (mb := mb) (l := l) HO.out (fun z hz => by
        obtain ⟨a, ha, _, e, _⟩ := HG.out.some_ z hz
        subst e
        have := (hfine.out a ha).1
        exact i64_lit (by omega) (by omega)) (by have := HL.out; have := hfew.out; omega)
        ((World.cell?_of_block (HK.out.block _ (by show w.heap.size < _; have := S1.out; omega))).trans CT.out) ((World.cell?_of_block (HK.out.block _ (by show g < _; have := S1.out; have := HM.out.2; omega))).trans C1.out) it.map ⟨by have := S1.out; omega, by have := S1.out; have := HM.out.2; omega, by have := S1.out; have := HM.out.1; omega⟩)
      clear hf it h0
      go_wp2_with fail
      refine CS.out.mono ?_
      rintro e w5 ⟨rfl, ys, o5, p5, q5, t5⟩
      rw [due_sorted HG.out hR.out HF.out p5 q5] at o5
      have O5 := Lib.hid o5
      have K5 := Lib.hid (K1.out.trans (t5.keep HK.out fun b hb => by have := (HO.out.low b hb).1; omega))
      clear o5 t5 p5 q5
      go_wp2_with fail
      go_ret
      exact ⟨A, n, c, rfl, (by
        have h := O5.out
        have hs := S1.out
        refine ⟨h.1, ?_⟩
        rcases h.2 with hv | ⟨g, cap, cur, hv, hb, r⟩
        · exact Or.inl hv
        · exact Or.inr ⟨g, cap, cur, hv, by omega, r⟩), K5.out⟩
    · intro b w2 left2 cnt2 hb hlb hl2 it2 hlt t2 s2 hen
      unfold almC at hen
      have kA : Keep w2 (w2.alloc (.cells #[.int .u64 (b.every : Int), .int .u64 (b.due : Int)] 64)) := (Keep.refl w2).alloc _ _
      have k3 : Keep w1 (w2.alloc (.cells #[.int .u64 (b.every : Int), .int .u64 (b.due : Int)] 64)) := (t2.keep HK.out fun x e => by omega).trans kA
      have o3 : OwnZ (w2.alloc (.cells #[.int .u64 (b.every : Int), .int .u64 (b.due : Int)] 64)) (w1.heap.size + 1) A n c zs := (HO.out.turned t2 (fun x hx e => by have := (HO.out.low x hx).1; omega)).keep kA
      have I3 := Lib.hid (it2.turned (Turned.of_keep (F := fun _ => False) kA) (fun e => e) (fun e => e))
      have d0 : (w2.alloc (.cells #[.int .u64 (b.every : Int), .int .u64 (b.due : Int)] 64)).cell? ⟨w2.heap.size, 1, none⟩ = some (.int .u64 (b.due : Int)) := by simp
      have d1 : (w2.alloc (.cells #[.int .u64 (b.every : Int), .int .u64 (b.due : Int)] 64)).cell? ⟨w.heap.size, 0, none⟩ = some (.pointer (some ⟨g, 0, none⟩)) := (World.cell?_of_block (k3.block _ (by show w.heap.size < _; have := S1.out; omega))).trans CT.out
      have d2 : (w2.alloc (.cells #[.int .u64 (b.every : Int), .int .u64 (b.due : Int)] 64)).cell? ⟨g, 0, none⟩ = some (.int .u64 (clk : Int)) := (World.cell?_of_block (k3.block _ (by show g < _; have := S1.out; have := HM.out.2; omega))).trans C0.out
      have HB := Lib.hid (And.intro hb (And.intro hlb hl2))
      have L3 := Lib.hid hlt
      have K3 := Lib.hid k3
      have O3 := Lib.hid o3
      have HZ3 : Hid (w1.heap.size + 1 ≤ (w2.alloc (.cells #[.int .u64 (b.every : Int), .int .u64 (b.due : Int)] 64)).heap.size) := Lib.hid (by have := HZ.out; have := t2.size; have := kA.size; omega)
      clear it t2 s2 hb hlb hl2 it2 hlt kA k3 o3
      by_cases hd : b.due ≤ clk
      · have b1 : decide ((b.due : Int) ≤ (clk : Int)) = true := decide_eq_true (by omega)
        have b2 : decide (b.due ≤ clk) = true := decide_eq_true hd
        have HD := Lib.hid hd
        clear hd
        go_wp2_with fail
        go_quiet (fail)
        have kB : Keep (w2.alloc (.cells #[.int .u64 (b.every : Int), .int .u64 (b.due : Int)] 64)) (((w2.alloc (.cells #[.int .u64 (b.every : Int), .int .u64 (b.due : Int)] 64)).drewN nq).alloc (.cells #[.int .i64 (b.name : Int)] 3)) := ((Keep.refl (w2.alloc (.cells #[.int .u64 (b.every : Int), .int .u64 (b.due : Int)] 64))).drewN nq).alloc _ _
        have o4 : OwnZ (((w2.alloc (.cells #[.int .u64 (b.every : Int), .int .u64 (b.due : Int)] 64)).drewN nq).alloc (.cells #[.int .i64 (b.name : Int)] 3)) (w1.heap.size + 1) A n c zs := O3.out.keep kB
        have hc4 : (((w2.alloc (.cells #[.int .u64 (b.every : Int), .int .u64 (b.due : Int)] 64)).drewN nq).alloc (.cells #[.int .i64 (b.name : Int)] 3)).cell? ⟨w2.heap.size + 1, 0, none⟩ = some (.int .i64 (b.name : Int)) := by
          have e : ((w2.alloc (.cells #[.int .u64 (b.every : Int), .int .u64 (b.due : Int)] 64)).drewN nq).heap.size = w2.heap.size + 1 := by show (w2.alloc (.cells #[.int .u64 (b.every : Int), .int .u64 (b.due : Int)] 64)).heap.size = _; simp
          have h := cells_one ((w2.alloc (.cells #[.int .u64 (b.every : Int), .int .u64 (b.due : Int)] 64)).drewN nq) (.int .i64 (b.name : Int)) 3
          rwa [e] at h
        have HN : Hid (n ≤ 1000000) := Lib.hid (by have := HL.out; have := hfew.out; omega)
        have HB4 : Hid (w1.heap.size + 1 ≤ (((w2.alloc (.cells #[.int .u64 (b.every : Int), .int .u64 (b.due : Int)] 64)).drewN nq).alloc (.cells #[.int .i64 (b.name : Int)] 3)).heap.size) := Lib.hid (Nat.le_trans HZ3.out kB.size)
        have G4 := Lib.hid (HG.out.put HB.out.1 HD.out HB.out.2.1 HB.out.2.2)
        have I4 : Hid (∀ w4, Turned (fun x => (Value.slice A n c).ownBlock = some x) (((w2.alloc (.cells #[.int .u64 (b.every : Int), .int .u64 (b.due : Int)] 64)).drewN nq).alloc (.cells #[.int .i64 (b.name : Int)] 3)) w4 → ItA w4 mb w1.heap.size l left2 cnt2) := Lib.hid fun w4 t4 => (I3.out.turned (Turned.of_keep (F := fun _ => False) kB) (fun e => e) (fun e => e)).turned t4 (fun e => by have := (o4.low _ e).1; have := HM.out.1; have := S1.out; omega) (fun e => by have := (o4.low _ e).1; omega)
        have K4 : Hid (∀ w4, Turned (fun x => (Value.slice A n c).ownBlock = some x) (((w2.alloc (.cells #[.int .u64 (b.every : Int), .int .u64 (b.due : Int)] 64)).drewN nq).alloc (.cells #[.int .i64 (b.name : Int)] 3)) w4 → Keep w1 w4) := Lib.hid fun w4 t4 => t4.keep (K3.out.trans kB) fun x e => by have := (o4.low x e).1; omega
        clear kB d0 d1 d2
        go_wp2_with (at_builtin; refine wpList_append_int rfl _ _ rfl rfl o4 rfl hc4 HN.out HB4.out ?_; intro A4 c4 w4 o5 t5)
        have HII := Lib.hid (I4.out w4 t5)
        have HO5 := Lib.hid o5
        have HK5 := Lib.hid (K4.out w4 t5)
        have HS5 : Hid (w1.heap.size + 1 ≤ w4.heap.size) := Lib.hid (Nat.le_trans HB4.out t5.size)
        clear o5 t5 o4 hc4
        go_roundw
        case rel => exact ⟨n + 1, c4, cnt2, A4, zs ++ [(b.name : Int)], left2, rfl, HII.out, G4.out, HO5.out, HK5.out, HS5.out, by have := HL.out; have := L3.out; omega⟩
        case measure =>
          rw [HII.out.left_eq, IT.out.left_eq]
          exact L3.out
      · have b1 : decide ((b.due : Int) ≤ (clk : Int)) = false := decide_eq_false (by omega)
        have b2 : decide (b.due ≤ clk) = false := decide_eq_false hd
        have HD := Lib.hid hd
        clear hd
        go_wp2_with fail
        go_quiet (fail)
        have kB : Keep (w2.alloc (.cells #[.int .u64 (b.every : Int), .int .u64 (b.due : Int)] 64)) ((w2.alloc (.cells #[.int .u64 (b.every : Int), .int .u64 (b.due : Int)] 64)).drewN nq) := (Keep.refl (w2.alloc (.cells #[.int .u64 (b.every : Int), .int .u64 (b.due : Int)] 64))).drewN nq
        have HII := Lib.hid (I3.out.turned (Turned.of_keep (F := fun _ => False) kB) (fun e => e) (fun e => e))
        have HO5 := Lib.hid (O3.out.keep kB)
        have HK5 := Lib.hid (K3.out.trans kB)
        have G4 := Lib.hid (HG.out.pass hR.out HB.out.1 HD.out HB.out.2.2)
        have HS5 : Hid (w1.heap.size + 1 ≤ ((w2.alloc (.cells #[.int .u64 (b.every : Int), .int .u64 (b.due : Int)] 64)).drewN nq).heap.size) := Lib.hid (Nat.le_trans HZ3.out kB.size)
        clear kB d0 d1 d2
        go_wp2_with fail
        go_roundw
        case rel => exact ⟨n, c, cnt2, A, zs, left2, rfl, HII.out, G4.out, HO5.out, HK5.out, HS5.out, by have := HL.out; have := L3.out; omega⟩
        case measure =>
          rw [HII.out.left_eq, IT.out.left_eq]
          exact L3.out
end Go.Proofs.Ytjjoieahodfikaa
/- The landed timers: Next. -/
namespace Go.Proofs.Ytjjoieahodfikaa
open Go.RowKit Go.Maps Tmr
set_option linter.unusedVariables false
set_option linter.unusedSimpArgs false
set_option maxRecDepth 100000
theorem run_minT (a b m : Nat) (h : min a b = m) (w : World) : (Builtin.min_ #[27, 27] 27 #[.int .u64 (a : Int), .int .u64 (b : Int)]).run Try.prog w = .ok (.int .u64 (m : Int)) w := by
  rw [run_min_int2]; congr 2; split <;> omega
/-- The least so far. -/
structure LeastT (l : List Alarm) (left : Lit → Bool) (m : Nat) : Prop where
  top : m ≤ maxT
  le : ∀ a ∈ l, left (.int .i64 (a.name : Int)) = false → m ≤ a.due
  is : m = maxT ∨ ∃ a ∈ l, a.due = m
theorem LeastT.put {l : List Alarm} {left left' : Lit → Bool} {m : Nat} {b : Alarm} (h : LeastT l left m) (hR : Rising l) (hb : b ∈ l) (h' : ∀ c ∈ l, left' (.int .i64 (c.name : Int)) = (left (.int .i64 (c.name : Int)) && !decide (c.name = b.name))) : LeastT l left' (min m b.due) := by
  refine ⟨by have := h.top; omega, fun a ha e => ?_, ?_⟩
  · rw [h' a ha] at e
    by_cases hn : a.name = b.name
    · rw [rising_inj hR ha hb hn]; omega
    · simp [hn] at e
      have := h.le a ha e; omega
  · by_cases hm : m ≤ b.due
    · rw [show min m b.due = m by omega]; exact h.is
    · exact Or.inr ⟨b, hb, by omega⟩
theorem LeastT.end_ {l : List Alarm} {left : Lit → Bool} {m : Nat} (h : LeastT l left m) (hf : ∀ kl, left kl = false) (hne : l ≠ []) (hfine : ∀ a ∈ l, FineA a) : m = nextL l := by
  obtain ⟨a, ha, e⟩ := nextL_mem hne
  have h1 := h.le a ha (hf _)
  have h2 := (hfine a ha).2.2.2
  rcases h.is with h3 | ⟨b, hb, h3⟩
  · omega
  · have := nextL_le hb; omega
set_option maxHeartbeats 2000000 in
theorem tnext_any {w : World} {B g mb clk : Nat} {l : List Alarm} (h : TmL w B g mb clk l) :
    Calls Try.prog 19 #[.pointer (some ⟨g, 0, none⟩)] w fun r w' => r = .returned (.tuple #[.int .u64 (nextL l : Int), .bool (decide (l ≠ []))]) ∧ Keep w w' := by
  have CM := Lib.hid (tmade h)
  have c1 := h.c1
  have hR := Lib.hid h.rising
  have hfine := Lib.hid h.fine
  have hm := h.map
  have HM := Lib.hid h.mlt
  have hlen := h.map.len 3
  by_cases hne : l = []
  · subst hne
    have e : ((([] : List Alarm).length : Nat) : Int) = 0 := rfl
    rw [e] at hlen
    have e1 : decide (([] : List Alarm) ≠ []) = false := decide_eq_false (by simp)
    rw [e1]
    have e2 : ((nextL [] : Nat) : Int) = 0 := rfl
    rw [e2]
    clear h hm e e1 e2
    go_enter Try.func19, Try.ntmps19
    go_wp2_with fail
    refine CM.out.mono ?_
    rintro e w1 ⟨rfl, hw⟩
    obtain rfl : w = w1 := hw.symm
    go_wp2_with fail
    go_ret2
    exact ⟨rfl, Keep.refl _⟩
  · have hl0 : 0 < l.length := List.length_pos_iff.2 hne
    obtain ⟨q, hq⟩ : ∃ q, l.length = q := ⟨_, rfl⟩
    rw [hq] at hlen
    have b1 : ((q : Int) == 0) = false := beq_eq_false_iff_ne.2 (by omega)
    have b2 : decide ((q : Int) = 0) = false := decide_eq_false (by omega)
    have b3 : decide (q = 0) = false := decide_eq_false (by omega)
    rw [show decide (l ≠ []) = true from decide_eq_true hne]
    have HNE := Lib.hid hne
    clear h hl0 hq hne
    go_enter Try.func19, Try.ntmps19
    go_wp2_with fail
    refine CM.out.mono ?_
    rintro e w1 ⟨rfl, hw⟩
    obtain rfl : w = w1 := hw.symm
    go_wp2_with (at_range; refine wpList_range_al rfl _ rfl rfl hm ?_; intro w0 left hl0 it0 k0 s0)
    go_frame
    have HS := Lib.hid s0
    clear s0 hm c1 hlen b1 b2 b3
    go_loopw [4] (fun nv wr => ∃ (m cnt : Nat) (left : Lit → Bool), nv = .int .u64 (m : Int) ∧ ItA wr mb w.heap.size l left cnt ∧ LeastT l left m ∧ Keep w wr ∧ w.heap.size + 1 ≤ wr.heap.size) (fun nv wr => wr.rangeLeft mb w.heap.size)
    case atStart => exact ⟨maxT, l.length, left, rfl, it0, ⟨Nat.le_refl _, fun a ha e => (by rw [hl0 a ha] at e; cases e), Or.inl rfl⟩, k0, by have := HS.out; omega⟩
    case round =>
      obtain ⟨m, cnt, left, rfl, it, hg, kk, hsz⟩ := hrel
      have HG := Lib.hid hg
      have HK := Lib.hid kk
      have HZ := Lib.hid hsz
      have IT := Lib.hid it
      clear hg kk hsz
      go_wp2_with (at_next; refine wpList_next_al rfl _ rfl rfl it ?_ ?_)
      · intro h0 hf
        have HE := Lib.hid (HG.out.end_ hf HNE.out hfine.out)
        clear hf it h0
        go_wp2_with fail
        go_ret2
        exact ⟨by rw [HE.out]; rfl, HK.out⟩
      · intro b w2 left2 cnt2 hb hlb hl2 it2 hlt t2 s2 hen
        unfold almC at hen
        have kA : Keep w2 (w2.alloc (.cells #[.int .u64 (b.every : Int), .int .u64 (b.due : Int)] 64)) := (Keep.refl w2).alloc _ _
        have k3 : Keep w (w2.alloc (.cells #[.int .u64 (b.every : Int), .int .u64 (b.due : Int)] 64)) := (t2.keep HK.out fun x e => by omega).trans kA
        have I3 := Lib.hid (it2.turned (Turned.of_keep (F := fun _ => False) kA) (fun e => e) (fun e => e))
        have d0 : (w2.alloc (.cells #[.int .u64 (b.every : Int), .int .u64 (b.due : Int)] 64)).cell? ⟨w2.heap.size, 1, none⟩ = some (.int .u64 (b.due : Int)) := by simp
        have G3 := Lib.hid (HG.out.put hR.out hb hl2)
        obtain ⟨v, hv⟩ : ∃ v, min m b.due = v := ⟨_, rfl⟩
        rw [hv] at G3
        have hmn := run_minT m b.due v hv (w2.alloc (.cells #[.int .u64 (b.every : Int), .int .u64 (b.due : Int)] 64))
        have L3 := Lib.hid hlt
        have K3 := Lib.hid k3
        have HZ3 : Hid (w.heap.size + 1 ≤ (w2.alloc (.cells #[.int .u64 (b.every : Int), .int .u64 (b.due : Int)] 64)).heap.size) := Lib.hid (by have := HZ.out; have := t2.size; have := kA.size; omega)
        clear it t2 s2 hb hlb hl2 it2 hlt kA k3 hv
        go_wp2_with fail
        go_roundw
        case rel => exact ⟨v, cnt2, left2, rfl, I3.out, G3.out, K3.out, HZ3.out⟩
        case measure =>
          rw [I3.out.left_eq, IT.out.left_eq]
          exact L3.out
end Go.Proofs.Ytjjoieahodfikaa
/- The document's own timers: Again. -/
namespace Go.Proofs.Ytjjoieahodfikaa
open Go.RowKit Tmr
set_option linter.unusedVariables false
set_option linter.unusedSimpArgs false
/-- One of them is written anew, in its place. -/
theorem SAt.due {w : World} {B n c k : Nat} {gb off : Nat} {l : List Alarm} (h : SAt almV 3 w B (some ⟨gb, off, none⟩) n c l) {a : Alarm} (hk : l[k]? = some a) (d : Nat) :
    SAt almV 3 (w.setCell ⟨gb, off + k * 3 + 2, none⟩ (.int .u64 (d : Int))) B (some ⟨gb, off, none⟩) n c (l.set k ⟨a.name, a.every, d⟩) := by
  have hkl := (List.getElem?_eq_some_iff.1 hk).1
  have hlen := h.length
  have hcp := h.cap
  refine ⟨by rw [List.length_set]; exact hlen, hcp, ?_⟩
  rcases h.lies with ⟨e, _⟩ | ⟨g', off', e, h1, h2, h3, h4⟩
  · cases e
  · injection e with e
    obtain ⟨rfl, rfl⟩ : gb = g' ∧ off = off' := by injection e with e1 e2; exact ⟨e1, e2⟩
    obtain ⟨u0, hu0⟩ := Option.isSome_iff_exists.1 (h4 (k * 3 + 2) (by omega)).1
    rw [← Nat.add_assoc] at hu0
    refine Or.inr ⟨gb, off, rfl, h1, by simpa [World.setCell] using h2, fun j u hu => ?_, fun j hj => ?_⟩
    · by_cases hj : j = k * 3 + 2
      · subst hj
        have e := almL.at_ (l.set k ⟨a.name, a.every, d⟩) k _ (by rw [List.getElem?_set_self hkl]) 2 (.int .u64 (d : Int)) rfl
        rw [e] at hu
        injection hu with hu
        subst hu
        rw [← Nat.add_assoc]
        exact World.cell?_setCell_same (h := hu0) ..
      · rw [show (w.setCell ⟨gb, off + k * 3 + 2, none⟩ (.int .u64 (d : Int))).cell? ⟨gb, off + j, none⟩ = w.cell? ⟨gb, off + j, none⟩ from World.cell?_setCell_other (h := fun e => hj (by injection e with _ e; omega)) ..]
        refine h3 j u ?_
        have hjl : j < (l.set k ⟨a.name, a.every, d⟩).length * 3 := by
          have := (List.getElem?_eq_some_iff.1 hu).1
          rwa [almL.len] at this
        rw [List.length_set] at hjl
        have hi : j / 3 < l.length := by omega
        have e1 := almL.at_ l (j / 3) _ (List.getElem?_eq_getElem hi) (j % 3)
        have hi2 : j / 3 < (l.set k ⟨a.name, a.every, d⟩).length := by rw [List.length_set]; exact hi
        have e2 := almL.at_ (l.set k ⟨a.name, a.every, d⟩) (j / 3) _ (List.getElem?_eq_getElem hi2) (j % 3)
        have ej : j / 3 * 3 + j % 3 = j := by omega
        rw [ej] at e1 e2
        have hm : j % 3 = 0 ∨ j % 3 = 1 ∨ j % 3 = 2 := by omega
        by_cases hjk : j / 3 = k
        · have hget : (l.set k ⟨a.name, a.every, d⟩)[j / 3] = ⟨a.name, a.every, d⟩ := by simp [hjk]
          have hget2 : l[j / 3] = a := by
            have := (List.getElem?_eq_some_iff.1 hk).2
            simp only [hjk]; exact this
          rw [hget] at e2
          rw [hget2] at e1
          rcases hm with hm | hm | hm
          · rw [hm] at e1 e2
            rw [e2 _ rfl] at hu; rw [e1 _ rfl]; exact hu
          · rw [hm] at e1 e2
            rw [e2 _ rfl] at hu; rw [e1 _ rfl]; exact hu
          · omega
        · have hget : (l.set k ⟨a.name, a.every, d⟩)[j / 3] = l[j / 3] := by
            rw [List.getElem_set_ne (fun e => hjk e.symm)]
          rw [hget] at e2
          rcases hm with hm | hm | hm <;> (rw [hm] at e1 e2; rw [e2 _ rfl] at hu; rw [e1 _ rfl]; exact hu)
    · constructor
      · by_cases hj2 : (⟨gb, off + j, none⟩ : Addr) = ⟨gb, off + k * 3 + 2, none⟩
        · rw [hj2, show (w.setCell ⟨gb, off + k * 3 + 2, none⟩ (.int .u64 (d : Int))).cell? ⟨gb, off + k * 3 + 2, none⟩ = some (.int .u64 (d : Int)) from World.cell?_setCell_same (h := hu0) ..]; rfl
        · rw [show (w.setCell ⟨gb, off + k * 3 + 2, none⟩ (.int .u64 (d : Int))).cell? ⟨gb, off + j, none⟩ = w.cell? ⟨gb, off + j, none⟩ from World.cell?_setCell_other (h := fun e => hj2 e.symm) ..]; exact (h4 j hj).1
      · rw [World.frozen?_setCell]; exact (h4 j hj).2
section
variable {w : World} {B g clk n c : Nat} {A : Option Addr} {l : List Alarm}
end
end Go.Proofs.Ytjjoieahodfikaa
/- The landed timers: New, Set, Stop, Again; calls of none. -/
namespace Go.Proofs.Ytjjoieahodfikaa
open Go.RowKit Go.Maps Tmr
set_option linter.unusedVariables false
set_option linter.unusedSimpArgs false
set_option maxRecDepth 100000
theorem tnew_any (w : World) : Calls Try.prog 9 #[] w fun r w' => ∃ g mb, r = .returned (.pointer (some ⟨g, 0, none⟩)) ∧ TmL w' w.heap.size g mb 0 [] ∧ Keep w w' := by
  obtain ⟨w1, hw1⟩ : ∃ w1, w.alloc (.map #[] 0) = w1 := ⟨_, rfl⟩
  have m1 : MapA w1 w.heap.size [] := hw1 ▸ MapA.made w
  have k1 : Keep w w1 := hw1 ▸ (Keep.refl w).allocMap _ _
  have s1 : w1.heap.size = w.heap.size + 1 := by rw [← hw1]; simp
  have hmm : (Instr.makeMap 60 none).run Try.prog w = .ok (.map (some w.heap.size)) w1 := by rw [← hw1]; exact run_makeMap _ _
  have k2 : Keep w1 (w1.alloc (.cells #[.int .u64 0, .map (some w.heap.size)] 62)) := (Keep.refl w1).alloc _ _
  have H : Hid (TmL (w1.alloc (.cells #[.int .u64 0, .map (some w.heap.size)] 62)) w.heap.size w1.heap.size w.heap.size 0 [] ∧ Keep w (w1.alloc (.cells #[.int .u64 0, .map (some w.heap.size)] 62))) := Lib.hid ⟨⟨heap_alloc_new w1 _, m1.turned (Turned.of_keep (F := fun _ => False) k2) (fun e => e), by omega, ⟨by omega, Nat.le_refl _⟩, List.Pairwise.nil, by unfold maxT; omega, fun a ha => (nomatch ha), by simp⟩, k1.trans k2⟩
  clear m1 k1 k2 s1 hw1
  obtain ⟨b, hb⟩ : ∃ b, w.heap.size = b := ⟨_, rfl⟩
  rw [hb] at hmm H ⊢
  clear hb
  go_enter Try.func9, Try.ntmps9
  go_wp2_with fail
  go_ret
  exact ⟨_, _, rfl, H.out⟩
section
variable {w : World} {B g mb clk : Nat} {l : List Alarm}
/-- What Set tells, what it leaves. -/
def setE (l : List Alarm) (x : Int) (e : Nat) : Int := if x < 0 ∨ e < 1 ∨ maxT < e then 1 else if ∃ a ∈ l, (a.name : Int) = x then 9 else 0
def setR (clk : Nat) (l : List Alarm) (x : Int) (e : Nat) : List Alarm := if setE l x e = 0 then setL ⟨x.toNat, e, later clk e⟩ l else l
theorem later_le (c e : Nat) : later c e ≤ maxT := by unfold later; omega
theorem tset_any (h : TmL w B g mb clk l) (x : Int) (hx : x < 9223372036854775808) (hx2 : -9223372036854775808 ≤ x) (e : Nat) (hf : l.length < 100000) :
    Calls Try.prog 10 #[.pointer (some ⟨g, 0, none⟩), .int .i64 x, .int .u64 (e : Int)] w fun r w' => r = .returned (.int .i64 (setE l x e)) ∧ TmL w' B g mb clk (setR clk l x e) ∧ Turned (FpT g mb) w w' := by
  have CM := Lib.hid (tmade h)
  by_cases hb : x < 0 ∨ e < 1 ∨ maxT < e
  · have hE : setE l x e = 1 := if_pos hb
    have HR : Hid (TmL w B g mb clk (setR clk l x e)) := by unfold setR; rw [hE]; exact Lib.hid h
    rw [hE]
    have HB := Lib.hid hb
    clear hb hE h
    by_cases h1 : x < 0
    · have d1 : decide (x < 0) = true := decide_eq_true h1
      clear h1 hx hx2
      go_enter Try.func10, Try.ntmps10
      go_wp2_with fail
      refine CM.out.mono ?_
      rintro e w1 ⟨rfl, rfl⟩
      go_wp2_with fail
      go_ret
      exact ⟨rfl, HR.out, Turned.refl _ _⟩
    · have d1 : decide (x < 0) = false := decide_eq_false h1
      by_cases h2 : e < 1
      · obtain rfl : e = 0 := by omega
        clear h1 hx hx2 h2
        go_enter Try.func10, Try.ntmps10
        go_wp2_with fail
        refine CM.out.mono ?_
        rintro e w1 ⟨rfl, rfl⟩
        go_wp2_with fail
        go_ret
        exact ⟨rfl, HR.out, Turned.refl _ _⟩
      · have h3 : 1099511627776 < e := by have := HB.out; unfold maxT at this; omega
        have d2 : decide ((e : Int) < 1) = false := decide_eq_false (by omega)
        have d3 : decide (e < 1) = false := decide_eq_false (by omega)
        have d6 : decide (e = 0) = false := decide_eq_false (by omega)
        have d4 : decide ((1099511627776 : Int) < (e : Int)) = true := decide_eq_true (by omega)
        have d5 : decide (1099511627776 < e) = true := decide_eq_true h3
        clear h1 hx hx2 h2 h3
        go_enter Try.func10, Try.ntmps10
        go_wp2_with fail
        refine CM.out.mono ?_
        rintro e w1 ⟨rfl, rfl⟩
        go_wp2_with fail
        go_ret
        exact ⟨rfl, HR.out, Turned.refl _ _⟩
  · obtain ⟨n, rfl⟩ : ∃ n : Nat, x = n := Int.eq_ofNat_of_zero_le (by omega)
    have hm : e ≤ 1099511627776 := by unfold maxT at hb; omega
    have d1 : decide ((n : Int) < 0) = false := decide_eq_false (by omega)
    have d2 : decide ((e : Int) < 1) = false := decide_eq_false (by omega)
    have d3 : decide (e < 1) = false := decide_eq_false (by omega)
    have d6 : decide (e = 0) = false := decide_eq_false (by omega)
    have d4 : decide ((1099511627776 : Int) < (e : Int)) = false := decide_eq_false (by omega)
    have d5 : decide (1099511627776 < e) = false := decide_eq_false (by omega)
    have c1 := h.c1
    by_cases hi : ∃ a ∈ l, (a.name : Int) = n
    · have hE : setE l n e = 9 := by unfold setE; rw [if_neg hb, if_pos hi]
      obtain ⟨a, ha, hn⟩ := hi
      have lk := (h.map.look_in ha (by omega)).1
      rw [hn] at lk
      unfold almC at lk
      have kk : Keep w (w.alloc (.cells #[.int .u64 (a.every : Int), .int .u64 (a.due : Int)] 64)) := (Keep.refl w).alloc _ _
      have HR : Hid (TmL (w.alloc (.cells #[.int .u64 (a.every : Int), .int .u64 (a.due : Int)] 64)) B g mb clk (setR clk l n e) ∧ Turned (FpT g mb) w (w.alloc (.cells #[.int .u64 (a.every : Int), .int .u64 (a.due : Int)] 64))) := by unfold setR; rw [hE]; exact Lib.hid ⟨h.keep kk, Turned.of_keep kk⟩
      rw [hE]
      clear hb hE h ha hn hm hx hx2 kk
      go_enter Try.func10, Try.ntmps10
      go_wp2_with fail
      refine CM.out.mono ?_
      rintro e w1 ⟨rfl, rfl⟩
      go_wp2_with fail
      go_ret
      exact ⟨rfl, HR.out⟩
    · have hE : setE l n e = 0 := by unfold setE; rw [if_neg hb, if_neg hi]
      have lk := (h.map.look_out (fun a ha e => hi ⟨a, ha, e⟩) (i64_lit (by omega) (by omega))).1
      unfold almC at lk
      obtain ⟨w2, hw2⟩ : ∃ w2, w.alloc (.cells #[.int .u64 0, .int .u64 0] 64) = w2 := ⟨_, rfl⟩
      have kk : Keep w w2 := hw2 ▸ (Keep.refl w).alloc _ _
      have h2 := h.keep kk
      have hd := h2.map.turned (Turned.of_keep (F := fun _ => False) (Keep.refl w2).drew) (fun e => e)
      have hno : ¬ isIn n l := fun ⟨a, ha, e⟩ => hi ⟨a, ha, by omega⟩
      have hp := hd.put_new ⟨n, e, later clk e⟩ hno (by show n < _; omega) (by omega)
      have CL := Lib.hid (tlay h2 ⟨n, e, later clk e⟩ (by unfold maxT; exact hm) rfl (setL ⟨n, e, later clk e⟩ l) (rising_setL h.rising hno) (fun b hb2 => by
        rcases mem_setL.1 hb2 with rfl | hb2
        · exact ⟨by show n < _; omega, by show 1 ≤ e; omega, by show e ≤ _; unfold maxT; exact hm, later_le _ _⟩
        · exact h.fine b hb2) (by rw [setL_length]; omega) hp)
      have HK := Lib.hid kk
      have hR : setR clk l (n : Int) e = setL ⟨n, e, later clk e⟩ l := by unfold setR; rw [if_pos hE]; rfl
      rw [hE, hR]
      clear hb hE hR h h2 hd hno hp hi hm hx hx2 kk
      subst hw2
      go_enter Try.func10, Try.ntmps10
      go_wp2_with fail
      refine CM.out.mono ?_
      rintro e w1 ⟨rfl, rfl⟩
      go_wp2_with fail
      refine CL.out.mono ?_
      rintro e w3 ⟨rfl, g3, t3⟩
      go_wp2_with fail
      go_ret
      exact ⟨rfl, g3, (Turned.of_keep (F := FpT g mb) HK.out).trans t3 fun i e => Or.inl (Or.inr e)⟩
end
end Go.Proofs.Ytjjoieahodfikaa
/- The landed timers: Stop, Again. -/
namespace Go.Proofs.Ytjjoieahodfikaa
open Go.RowKit Go.Maps Tmr
set_option linter.unusedVariables false
set_option linter.unusedSimpArgs false
set_option maxRecDepth 100000
section
variable {w : World} {B g mb clk : Nat} {l : List Alarm}
theorem fine_again {c n : Nat} {l : List Alarm} (h : ∀ a ∈ l, FineA a) : ∀ b ∈ againL c n l, FineA b := fun b hb => by
  obtain ⟨x, hx, e⟩ := List.mem_map.1 hb
  have hfx := h x hx
  split at e
  · subst e; exact ⟨hfx.1, hfx.2.1, hfx.2.2.1, later_le _ _⟩
  · subst e; exact hfx
theorem againL_length (c n : Nat) (l : List Alarm) : (againL c n l).length = l.length := by simp [againL]
end
end Go.Proofs.Ytjjoieahodfikaa
