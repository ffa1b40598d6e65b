/- Ints in memory: appended, cloned, compared; bytes cloned; beginnings of bytes. -/
import Derived.Test.YtcafofffgmaepaaSX
import Derived.Test.YtcafofffgmaepaaLibc
import Derived.Test.YtcafofffgmaepaaEqual
namespace Go.Proofs.Ytcafofffgmaepaa
open Go.RowKit
set_option linter.unusedVariables false
set_option linter.unusedSimpArgs false
def natsV (l : List Nat) : List Value := l.map fun x : Nat => Value.int .i64 (x : Int)
/-- A slice of numbers, as ints. -/
def NatsAt (w : World) (B : Nat) (A : Option Addr) (n : Nat) (l : List Nat) : Prop := IntsAt w B A n (l.map fun x : Nat => (x : Int))
theorem NatsAt.length {w : World} {B n : Nat} {A : Option Addr} {l : List Nat} (h : NatsAt w B A n l) : l.length = n := by have := h.1; simpa using this
theorem NatsAt.at_ {w : World} {B n : Nat} {A : Option Addr} {l : List Nat} (h : NatsAt w B A n l) {i : Nat} (hi : i < n) : ∃ b off, A = some ⟨b, off, none⟩ ∧ b < B ∧ w.cell? ⟨b, off + i, none⟩ = some (.int .i64 ((l.getD i 0 : Nat) : Int)) := by
  obtain ⟨b, off, e, hb, hc⟩ := h.2 (by omega)
  refine ⟨b, off, e, hb, hc i _ ?_⟩
  have hl : i < l.length := by rw [h.length]; exact hi
  rw [List.getElem?_map, List.getElem?_eq_getElem hl, List.getD_eq_getElem?_getD, List.getElem?_eq_getElem hl]; rfl
theorem NatsAt.keep {w w' : World} {B n : Nat} {A : Option Addr} {l : List Nat} (h : NatsAt w B A n l) (hB : B ≤ w.heap.size) (k : Keep w w') : NatsAt w' B A n l := ⟨h.1, fun hp => by
  obtain ⟨b, off, e, hb, hc⟩ := h.2 hp
  exact ⟨b, off, e, hb, fun i z hz => by
    rw [World.cell?_of_block (k.block b (by show b < w.heap.size; omega))]; exact hc i z hz⟩⟩
theorem NatsAt.mono {w : World} {B B' n : Nat} {A : Option Addr} {l : List Nat} (h : NatsAt w B A n l) (hB : B ≤ B') : NatsAt w B' A n l := ⟨h.1, fun hp => by
  obtain ⟨b, off, e, hb, hc⟩ := h.2 hp
  exact ⟨b, off, e, by omega, hc⟩⟩
theorem OwnI.nats {w : World} {base n c : Nat} {A : Option Addr} {l : List Nat} (h : OwnI w base A n c l) : NatsAt w w.heap.size A n l := h.ints
section
variable {P : Program}
/-- append(ints, ints...). -/
theorem run_append_ints {w : World} {base n c B m cx t e : Nat} {A A' : Option Addr} {xs ys : List Nat} (ht : P.underlying t = some (.slice e))
    (hi : (P.info? e).map (fun i => (i.zero, i.size, i.bytes)) = some (some (.int .i64 0), 1, 8)) (hown : w.ownsRow base e 1 (.slice A n c) n (natsV xs)) (hx : NatsAt w B A' m ys) (hlen : n + m ≤ 17592186044416) (hbase : base ≤ w.heap.size) (ty : TypeId) :
    ∃ A2 c2 w', (Builtin.append_ #[t, t] ty #[.slice A n c, .slice A' m cx]).run P w = .ok (.slice A2 (n + m) c2) w' ∧ w'.ownsRow base e 1 (.slice A2 (n + m) c2) (n + m) (natsV (xs ++ ys)) ∧ w.grownBy w' (Value.slice A n c).ownBlock ∧ ((Value.slice A2 (n + m) c2).ownBlock = (Value.slice A n c).ownBlock ∨ (Value.slice A2 (n + m) c2).ownBlock = some w.heap.size) := by
  obtain ⟨i0, hi0, hz0, hz1, hz2⟩ := info_parts hi
  have h63 : n + m ≤ maxLen := by unfold maxLen; omega
  have hap : natsV (xs ++ ys) = natsV xs ++ natsV ys := by simp [natsV]
  have main : ∀ ad : Addr, A' = some ad → (∀ j u, (natsV ys)[j]? = some u → w.cell? (ad.add j) = some u) →
      ∃ A2 c2 w', (Builtin.append_ #[t, t] ty #[.slice A n c, .slice A' m cx]).run P w = .ok (.slice A2 (n + m) c2) w' ∧ w'.ownsRow base e 1 (.slice A2 (n + m) c2) (n + m) (natsV (xs ++ ys)) ∧ w.grownBy w' (Value.slice A n c).ownBlock ∧ ((Value.slice A2 (n + m) c2).ownBlock = (Value.slice A n c).ownBlock ∨ (Value.slice A2 (n + m) c2).ownBlock = some w.heap.size) := by
    rintro ad rfl hc
    obtain ⟨v', w', hrun, h2, h3, _, h5⟩ := run_append_own_at (P := P) w base t ty e i0 (.int .i64 0) 1 8 ht hi0 hz0 hz1 hz2 rfl (by decide) _ n (natsV xs) hown ad m cx (natsV ys) (by rw [natsV, List.length_map, hx.length, Nat.mul_one]) hc (fun u hu => by
      obtain ⟨x, _, rfl⟩ := List.mem_map.1 hu; rfl) h63 (by omega) hbase
    obtain ⟨A2, c2, rfl⟩ := own_shape h2
    exact ⟨A2, c2, w', hrun, by rw [hap]; exact h2, h3, h5⟩
  by_cases hm : m = 0
  · subst hm
    have hy : ys = [] := List.eq_nil_of_length_eq_zero hx.length
    subst hy
    cases A' with
    | some ad => exact main ad rfl (fun j u hu => by simp [natsV] at hu)
    | none =>
      refine ⟨A, c, w, ?_, by simpa using hown, World.grownBy.refl w _, Or.inl rfl⟩
      rcases hown.2 with ⟨hv, rfl⟩ | ⟨g, cap, cur, hv, _, _, hnc, _⟩
      · simp [Builtin.append_, run_underlying ht, sizeOf, typeInfo, hi0, Builtin.lenOf, Builtin.firstCells, hv]
      · injection hv with e1 _ e3
        subst e1; subst e3
        simp [Builtin.append_, run_underlying ht, sizeOf, typeInfo, hi0, Builtin.lenOf, Builtin.firstCells, hnc, storeCells]
  · obtain ⟨b, off, rfl, _, hc⟩ := hx.2 (by omega)
    refine main _ rfl fun j u hu => ?_
    have hu : (natsV ys)[j]? = some u := hu
    rw [natsV, List.getElem?_map] at hu
    cases hj : ys[j]? with
    | none => rw [hj] at hu; cases hu
    | some y =>
      rw [hj] at hu
      have hu : Value.int .i64 (y : Int) = u := by simpa using hu
      have ha : (⟨b, off, none⟩ : Addr).add j = ⟨b, off + j, none⟩ := by unfold Addr.add; split <;> simp_all
      rw [ha, ← hu]
      exact hc j (y : Int) (by rw [List.getElem?_map, hj]; rfl)
theorem wp_append_ints {w : World} {o : Oper} {a : Act} {K : Act → World → Prop} {Q : Exit → Act → World → Prop} (s x : Operand) (t : TypeId)
    (ho : o.op = .call { callee := .builtin .append, args := #[s, x], argTypes := #[t, t] }) {base n c B m cx e : Nat} {A A' : Option Addr} {xs ys : List Nat} (ht : P.underlying t = some (.slice e))
    (hi : (P.info? e).map (fun i => (i.zero, i.size, i.bytes)) = some (some (.int .i64 0), 1, 8)) (hs : a.eval s = .slice A n c) (hown : w.ownsRow base e 1 (.slice A n c) n (natsV xs)) (hx0 : a.eval x = .slice A' m cx) (hx : NatsAt w B A' m ys) (hlen : n + m ≤ 17592186044416) (hbase : base ≤ w.heap.size)
    (h : ∀ A2 c2 w', w'.ownsRow base e 1 (.slice A2 (n + m) c2) (n + m) (natsV (xs ++ ys)) → w.grownBy w' (Value.slice A n c).ownBlock → ((Value.slice A2 (n + m) c2).ownBlock = (Value.slice A n c).ownBlock ∨ (Value.slice A2 (n + m) c2).ownBlock = some w.heap.size) → K (a.put o.dst (.slice A2 (n + m) c2)) w') : o.wp P a w K Q := by
  obtain ⟨A2, c2, w', hr, h2, h3, h4⟩ := run_append_ints (P := P) (cx := cx) ht hi hown hx hlen hbase o.type
  unfold Oper.wp execOp
  simp only [ho, resolve, invoke, builtin, Sem.run_bind, Sem.run_pure, Result.andThen_ok, List.map_toArray, List.map_cons, List.map_nil, hs, hx0, hr]
  exact h A2 c2 w' h2 h3 h4
theorem wpList_append_ints {w : World} {ops : Array Oper} {rest : List Oper} {o : Oper} {a : Act} {Q : Exit → Act → World → Prop} (hgd : o.guard = none) (s x : Operand) (t : TypeId)
    (ho : o.op = .call { callee := .builtin .append, args := #[s, x], argTypes := #[t, t] }) {base n c B m cx e : Nat} {A A' : Option Addr} {xs ys : List Nat} (ht : P.underlying t = some (.slice e))
    (hi : (P.info? e).map (fun i => (i.zero, i.size, i.bytes)) = some (some (.int .i64 0), 1, 8)) (hs : a.eval s = .slice A n c) (hown : w.ownsRow base e 1 (.slice A n c) n (natsV xs)) (hx0 : a.eval x = .slice A' m cx) (hx : NatsAt w B A' m ys) (hlen : n + m ≤ 17592186044416) (hbase : base ≤ w.heap.size)
    (h : ∀ A2 c2 w', w'.ownsRow base e 1 (.slice A2 (n + m) c2) (n + m) (natsV (xs ++ ys)) → w.grownBy w' (Value.slice A n c).ownBlock → ((Value.slice A2 (n + m) c2).ownBlock = (Value.slice A n c).ownBlock ∨ (Value.slice A2 (n + m) c2).ownBlock = some w.heap.size) → wpList P ops Q rest (a.put o.dst (.slice A2 (n + m) c2)) w') : wpList P ops Q (o :: rest) a w :=
  wpList_plain hgd fun _ hK => wp_append_ints s x t ho ht hi hs hown hx0 hx hlen hbase fun A2 c2 w' h2 h3 h4 => hK _ _ (h A2 c2 w' h2 h3 h4)
end
/-- What a call hands back that lays ints in new memory. -/
def NewInts (w : World) (l : List Nat) (r : Ending) (w' : World) : Prop := ∃ A n c, r = .returned (.slice A n c) ∧ OwnI w' w.heap.size A n c l ∧ Keep w w'
theorem lit_ints (w : World) : (w.alloc (.cells #[] 3)).ownsRow w.heap.size 3 1 (.slice (some ⟨w.heap.size, 0, none⟩) 0 0) 0 (natsV []) :=
  ⟨rfl, Or.inr ⟨w.heap.size, 0, #[], rfl, Nat.le_refl _, heap_alloc_new w _, Nat.le_refl _, by unfold maxLen; omega, rfl, rfl⟩⟩
set_option maxRecDepth 100000 in
theorem cloneints_any (B n c : Nat) (A : Option Addr) (l : List Nat) (w : World) (h : NatsAt w B A n l) (hB : B ≤ w.heap.size) (hn : n ≤ 17592186044416) :
    Calls Try.prog 48 #[.slice A n c] w (NewInts w l) := by
  cases A with
  | none =>
    have h0 : n = 0 := by
      rcases Nat.eq_zero_or_pos n with e | e
      · exact e
      · obtain ⟨b, off, e, _⟩ := h.2 e; cases e
    subst h0
    have hx : l = [] := List.eq_nil_of_length_eq_zero h.length
    subst hx
    have hq := fun (w : World) => Lib.run_eql_slice_nil (P := Try.prog) w 23 3 none 0 c 0 0 Try.underlying23
    clear h
    go_enter Try.func48, Try.ntmps48
    go_wp2_with fail
    go_ret
    exact ⟨none, 0, 0, rfl, OwnI.none_ _ _, Keep.refl _⟩
  | some ad =>
    have hq := fun (w : World) => Lib.run_eql_slice_nil (P := Try.prog) w 23 3 (some ad) n c 0 0 Try.underlying23
    have HO := lit_ints w
    have HB := Lib.hid (h.keep hB ((Keep.refl w).alloc #[] 3))
    clear h
    go_enter Try.func48, Try.ntmps48
    go_wp2_with (at_builtin; refine wpList_append_ints rfl _ _ 23 rfl Try.underlying23 infoInt rfl HO rfl HB.out ?c1 ?c2 ?_)
    case c1 => omega
    case c2 => simp
    intro A' c' w' hown hgr _
    have hk : Keep w w' := ((Keep.refl w).alloc #[] 3).grown hgr (fun k hk => by cases hk; exact Nat.le_refl _)
    go_wp2_with fail
    go_ret
    exact ⟨A', _, c', rfl, by simpa [OwnI, natsV] using hown, hk⟩
set_option maxRecDepth 100000 in
theorem bclone_any (B n c : Nat) (A : Option Addr) (xs : List Nat) (w : World) (h : Bytes w B A n xs) (hB : B ≤ w.heap.size) (hn : n ≤ 140737488355328) :
    Calls Try.prog 13 #[.slice A n c] w (NewBytes w xs) := by
  cases A with
  | none =>
    have h0 : n = 0 := by
      rcases Nat.eq_zero_or_pos n with e | e
      · exact e
      · obtain ⟨b, off, e, _⟩ := h.2.2 e; cases e
    subst h0
    have hx : xs = [] := List.eq_nil_of_length_eq_zero h.1
    subst hx
    have hq := fun (w : World) => Lib.run_eql_slice_nil (P := Try.prog) w 22 5 none 0 c 0 0 Try.underlying22
    clear h
    go_enter Try.func13, Try.ntmps13
    go_wp2_with fail
    go_ret
    exact ⟨none, 0, 0, rfl, Own.none_ _ _ _, Keep.refl _⟩
  | some ad =>
    have hq := fun (w : World) => Lib.run_eql_slice_nil (P := Try.prog) w 22 5 (some ad) n c 0 0 Try.underlying22
    have HO := Own.lit w 5 0 [] #[] rfl rfl (by omega) (by decide)
    have HB := Lib.hid (h.alloc hB (.cells #[] 5))
    clear h
    go_enter Try.func13, Try.ntmps13
    go_wp2_with (at_builtin; refine wpList_append_bytes rfl _ _ 22 rfl Try.underlying22 info5 rfl HO rfl HB.out ?c1 ?c2 ?_)
    case c1 => omega
    case c2 => simp
    intro A' c' w' hown hgr _
    have hk : Keep w w' := ((Keep.refl w).alloc #[] 5).grown hgr (fun k hk => by cases hk; exact Nat.le_refl _)
    go_wp2_with fail
    go_ret
    exact ⟨A', _, c', rfl, by simpa using hown, hk⟩
set_option maxRecDepth 100000 in
theorem eqints_any (B B' n m c c' : Nat) (A A' : Option Addr) (l k : List Nat) (w : World) (h : NatsAt w B A n l) (h' : NatsAt w B' A' m k) (hn : n ≤ 1000000) (bb : Bool) (hb : decide (l = k) = bb) :
    Calls Try.prog 33 #[.slice A n c, .slice A' m c'] w fun e w' => e = .returned (.bool bb) ∧ ∃ q, w' = w.drewN q := by
  have e1 := h.length
  have e2 := h'.length
  by_cases hnm : n = m
  · subst hnm
    have HB := Lib.hid hb
    have H1 := Lib.hid h
    have H2 := Lib.hid h'
    clear h h' hb
    go_enter Try.func33, Try.ntmps33
    go_wp2_with fail
    go_loopw [5, 13] (fun x i wr => ∃ j : Nat, j ≤ n ∧ i = .int .i64 j ∧ (∀ t, t < j → l.getD t 0 = k.getD t 0) ∧ ∃ q, wr = w.drewN q) (fun _ i _ => n - (intOf i).toNat)
    case atStart => exact ⟨0, by omega, rfl, fun t ht => by omega, 0, rfl⟩
    case round =>
      obtain ⟨j, hj, rfl, ht, q, rfl⟩ := hrel
      have HT := Lib.hid ht
      clear ht
      by_cases hlt : j < n
      · obtain ⟨b1, o1, rfl, _, x1⟩ := H1.out.at_ hlt
        obtain ⟨b2, o2, rfl, _, x2⟩ := H2.out.at_ hlt
        obtain ⟨u, hu⟩ : ∃ u, l.getD j 0 = u := ⟨_, rfl⟩
        obtain ⟨v, hv⟩ : ∃ v, k.getD j 0 = v := ⟨_, rfl⟩
        rw [hu] at x1
        rw [hv] at x2
        have x1 : ∀ p, (w.drewN p).cell? ⟨b1, o1 + j, none⟩ = some (.int .i64 (u : Int)) := fun p => by rw [World.cell?_drewN]; exact x1
        have x2 : ∀ p, (w.drewN p).cell? ⟨b2, o2 + j, none⟩ = some (.int .i64 (v : Int)) := fun p => by rw [World.cell?_drewN]; exact x2
        have f1 : (0 : Int) ≤ (j : Int) := by omega
        have f2 : (j : Int) < (n : Int) := by omega
        by_cases huv : u = v
        · subst huv
          have HN : Hid (∀ t, t < j + 1 → l.getD t 0 = k.getD t 0) := fun t ht => by
            rcases Nat.lt_or_ge t j with h1 | h1
            · exact HT.out t h1
            · obtain rfl : t = j := by omega
              rw [hu, hv]
          have hne : ((u : Int) != (u : Int)) = false := by simp
          clear hu hv
          go_wp2_with fail
          go_quiet (fail)
          go_wp2_with fail
          go_roundw
          case rel => exact ⟨j + 1, by omega, by go_num, HN.out, _, rfl⟩
          case measure => simp [intOf]; omega
        · have hne : ((u : Int) != (v : Int)) = true := bne_iff_ne.2 (by omega)
          have hd : ¬ (u : Int) = (v : Int) := by omega
          have HF : Hid (bb = false) := by
            show bb = false
            rw [← HB.out]; exact decide_eq_false fun e => huv (by rw [← hu, ← hv, e])
          clear hu hv
          go_wp2_with fail
          go_quiet (fail)
          go_wp2_with fail
          go_ret
          exact ⟨by rw [HF.out]; rfl, _, by first | rfl | rw [World.drewN_drewN]⟩
      · obtain rfl : j = n := by omega
        have HF : Hid (bb = true) := by
          show bb = true
          rw [← HB.out]
          refine decide_eq_true (List.ext_getElem (by rw [e1, e2]) fun t h1 h2 => ?_)
          have := HT.out t (by omega)
          simpa [List.getD_eq_getElem?_getD, List.getElem?_eq_getElem h1, List.getElem?_eq_getElem h2] using this
        go_wp2_with fail
        go_ret
        exact ⟨by rw [HF.out]; rfl, _, by first | rfl | rw [World.drewN_drewN]⟩
  · obtain rfl : false = bb := by rw [← hb]; exact (decide_eq_false fun e => hnm (by rw [← e1, ← e2, e])).symm
    have d1 : ((n : Int) != (m : Int)) = true := bne_iff_ne.2 (by omega)
    have d2 : ¬ (n : Int) = (m : Int) := by omega
    clear h h' hb
    go_enter Try.func33, Try.ntmps33
    go_wp2_with fail
    go_ret
    exact ⟨rfl, 0, rfl⟩
end Go.Proofs.Ytcafofffgmaepaa
