/- Slices of stage 16's ways: read, appended to, one taken out. -/
import Derived.Test.YtgogafhpchfinaaQaa
import Derived.ArgAppend
import Derived.Deep.MidRow
import Derived.Deep.Upon
import Derived.Maps.AppendAt
import Derived.Test.YtgogafhpchfinaaQab
import Derived.Maps.OwnOps
import Derived.Maps.Views
import Derived.Maps.OwnSet
import Derived.WideKeyArgs
import Derived.DeepKeys4
import Derived.ChangeKeysEq
namespace Go.Proofs.Ytgogafhpchfinaa
open Go.RowKit
set_option linter.unusedVariables false
set_option linter.unusedSimpArgs false
/-- What is on its way. -/
structure WayC where
  credit : Bool
  life : Nat
  dst : Nat
  num : Nat
def WayC.vals (p : WayC) : List Value := [.bool p.credit, .int .u64 (p.life : Int), .int .u64 (p.dst : Int), .int .u64 (p.num : Int)]
theorem wvals_len (ps : List WayC) : (ps.flatMap WayC.vals).length = ps.length * 4 := by
  induction ps with
  | nil => rfl
  | cons p ps ih => rw [List.flatMap_cons, List.length_append, ih, List.length_cons]; simp [WayC.vals]; omega
theorem wvals_at : ∀ (ps : List WayC) (i : Nat) (p : WayC), ps[i]? = some p → ∀ j u, p.vals[j]? = some u → (ps.flatMap WayC.vals)[i * 4 + j]? = some u
  | [], i, p, h => by simp at h
  | q :: ps, 0, p, h => by
    intro j u hj
    simp at h
    subst h
    rw [List.flatMap_cons, List.getElem?_append_left (by have := (List.getElem?_eq_some_iff.1 hj).1; omega)]
    rw [show 0 * 4 + j = j by omega]; exact hj
  | q :: ps, i + 1, p, h => by
    intro j u hj
    have ih := wvals_at ps i p (by simpa using h) j u hj
    have hl : q.vals.length = 4 := rfl
    rw [List.flatMap_cons, List.getElem?_append_right (by omega), hl, show (i + 1) * 4 + j - 4 = i * 4 + j by omega]
    exact ih
theorem wvals_one {ps : List WayC} {u : Value} (h : u ∈ ps.flatMap WayC.vals) : u.oneCell' = true := by
  obtain ⟨p, _, hp⟩ := List.mem_flatMap.1 h
  simp [WayC.vals] at hp
  rcases hp with rfl | rfl | rfl | rfl <;> rfl
/-- New memory: a slice of ways whose cells, its spare ones too, may be written. -/
structure WAt (w : World) (base : Nat) (A : Option Addr) (n c : Nat) (ws : List WayC) : Prop where
  length : ws.length = n
  cap : n ≤ c ∧ c ≤ maxLen
  lies : (A = none ∧ c = 0) ∨ ∃ g off, A = some ⟨g, off, none⟩ ∧ base ≤ g ∧ g < w.heap.size ∧ (∀ j u, (ws.flatMap WayC.vals)[j]? = some u → w.cell? ⟨g, off + j, none⟩ = some u) ∧ ∀ j, j < c * 4 → (w.cell? ⟨g, off + j, none⟩).isSome = true ∧ w.frozen? ⟨g, off + j, none⟩ = false
theorem infoWay : (Try.prog.info? 65).map (fun i => (i.zero, i.size, i.bytes)) = some (some (.agg #[.bool false, .int .u64 0, .int .u64 0, .int .u64 0]), 4, 32) := by kernel_rfl
namespace WAt
variable {w w' : World} {base n c : Nat} {A : Option Addr} {ws : List WayC}
theorem nothing (w : World) (base : Nat) : WAt w base none 0 0 [] := ⟨rfl, ⟨Nat.le_refl _, Nat.zero_le _⟩, Or.inl ⟨rfl, rfl⟩⟩
theorem of_own {v : Value} (h : w.ownsRow base 65 4 v n (ws.flatMap WayC.vals)) : ∃ A c, v = .slice A n c ∧ WAt w base A n c ws := by
  have hl : ws.length = n := by have := h.1; rw [wvals_len] at this; omega
  rcases h.2 with ⟨rfl, rfl⟩ | ⟨g, cap, cur, rfl, hg, hh, hn, hc, hsz, ht⟩
  · obtain rfl : ws = [] := List.eq_nil_of_length_eq_zero hl
    exact ⟨none, 0, rfl, nothing w base⟩
  · refine ⟨_, cap, rfl, hl, ⟨hn, hc⟩, Or.inr ⟨g, 0, rfl, hg, (Array.getElem?_eq_some_iff.1 hh).1, fun j u hu => ?_, fun j hj => ?_⟩⟩
    · have e := World.ownsRow.cells h (g := g) rfl j u hu
      have ha : (⟨g, 0, none⟩ : Addr).add j = ⟨g, 0 + j, none⟩ := by unfold Addr.add; split <;> simp_all
      rwa [ha] at e
    · have hj2 : 0 + j < cur.size := by omega
      constructor
      · simp [World.cell?, hh, Array.getElem?_eq_getElem (show j < cur.size by omega)]
      · simp [World.frozen?, hh]
theorem block (h : WAt w base A n c ws) : ∀ b, (Value.slice A n c).ownBlock = some b → base ≤ b ∧ b < w.heap.size := fun b hb => by
  rcases h.lies with ⟨rfl, _⟩ | ⟨g, off, rfl, h1, h2, _⟩
  · simp [Value.ownBlock] at hb
  · simp [Value.ownBlock] at hb; subst hb; exact ⟨h1, h2⟩
theorem turned {G : Nat → Prop} (h : WAt w base A n c ws) (k : Turned G w w') (hn : ∀ b, (Value.slice A n c).ownBlock = some b → ¬ G b) : WAt w' base A n c ws := by
  refine ⟨h.length, h.cap, ?_⟩
  rcases h.lies with e | ⟨g, off, rfl, h1, h2, h3, h4⟩
  · exact Or.inl e
  · have hb := k.block g h2 (hn g rfl)
    exact Or.inr ⟨g, off, rfl, h1, Nat.lt_of_lt_of_le h2 k.size, fun j u hu => by rw [World.cell?_of_block (w := w) hb]; exact h3 j u hu, fun j hj => by rw [World.cell?_of_block (w := w) hb, World.frozen?_of_block (w := w) hb]; exact h4 j hj⟩
theorem keep (h : WAt w base A n c ws) (k : Keep w w') : WAt w' base A n c ws := h.turned (Turned.of_keep (F := fun _ => False) k) fun _ _ e => e
theorem lower {base' : Nat} (h : WAt w base A n c ws) (hb : base' ≤ base) : WAt w base' A n c ws := ⟨h.length, h.cap, by
  rcases h.lies with e | ⟨g, off, e, h1, r⟩
  · exact Or.inl e
  · exact Or.inr ⟨g, off, e, by omega, r⟩⟩
/-- One of them. -/
theorem at_ (h : WAt w base A n c ws) {k : Nat} (hk : k < n) : ∃ g off p, A = some ⟨g, off, none⟩ ∧ base ≤ g ∧ g < w.heap.size ∧ ws[k]? = some p ∧
    w.cell? ⟨g, off + k * 4, none⟩ = some (.bool p.credit) ∧ w.cell? ⟨g, off + k * 4 + 1, none⟩ = some (.int .u64 (p.life : Int)) ∧ w.cell? ⟨g, off + k * 4 + 2, none⟩ = some (.int .u64 (p.dst : Int)) ∧ w.cell? ⟨g, off + k * 4 + 3, none⟩ = some (.int .u64 (p.num : Int)) := by
  have hl := List.getElem?_eq_getElem (l := ws) (i := k) (by rw [h.length]; exact hk)
  rcases h.lies with ⟨_, hc⟩ | ⟨g, off, rfl, h1, h2, h3, h4⟩
  · have := h.cap; omega
  · have hv := wvals_at ws k _ hl
    exact ⟨g, off, _, rfl, h1, h2, hl, h3 _ _ (hv 0 _ rfl), h3 _ _ (hv 1 _ rfl), h3 _ _ (hv 2 _ rfl), h3 _ _ (hv 3 _ rfl)⟩
end WAt
theorem setCells_block (b : Nat) : ∀ (vs : List Value) (o : Nat) (w : World), Turned (fun x => x = b) w (w.setCells b o vs)
  | [], _, w => Turned.refl _ w
  | v :: vs, o, w => (Turned.set (F := fun x => x = b) w ⟨b, o, none⟩ v rfl).trans (setCells_block b vs (o + 1) _) fun i e => Or.inl e
/-- append(ways, others...), where there are others. -/
theorem run_append_ways {w : World} {base n c m cx t : Nat} {A : Option Addr} {ad : Addr} {ws news : List WayC} (ht : Try.prog.underlying t = some (.slice 65)) (hown : WAt w base A n c ws) (hl : news.length = m) (hm : 0 < m)
    (hc : ∀ j u, (news.flatMap WayC.vals)[j]? = some u → w.cell? (ad.add j) = some u) (hlen : n + m ≤ 1000000) (hbase : base ≤ w.heap.size) (ty : TypeId) :
    ∃ A2 c2 w', (Builtin.append_ #[t, t] ty #[.slice A n c, .slice (some ad) m cx]).run Try.prog w = .ok (.slice A2 (n + m) c2) w' ∧ WAt w' base A2 (n + m) c2 (ws ++ news) ∧ Turned (fun b => (Value.slice A n c).ownBlock = some b) w w' ∧ (c < n + m → Keep w w') ∧ (∀ b, (Value.slice A2 (n + m) c2).ownBlock = some b → (Value.slice A n c).ownBlock = some b ∨ w.heap.size ≤ b) := by
  obtain ⟨i0, hi0, hz0, hz1, hz2⟩ := info_parts infoWay
  have hcp := hown.cap
  have hnl : (news.flatMap WayC.vals).length = m * 4 := by rw [wvals_len, hl]
  have hwl : (ws.flatMap WayC.vals).length = n * 4 := by rw [wvals_len, hown.length]
  have hone : ∀ u ∈ news.flatMap WayC.vals, u.oneCell' = true := fun u hu => wvals_one hu
  have hmx : n + m ≤ maxLen := by unfold maxLen; omega
  have hfl : ws.flatMap WayC.vals ++ news.flatMap WayC.vals = (ws ++ news).flatMap WayC.vals := by rw [List.flatMap_append]
  rcases hown.lies with ⟨rfl, rfl⟩ | ⟨g, off, rfl, hg1, hg2, hg3, hg4⟩
  · have hn0 : n = 0 := by omega
    subst hn0
    have hxs : ws = [] := List.eq_nil_of_length_eq_zero hown.length
    subst hxs
    obtain ⟨v', w', hrun, h2, h3, _, h5⟩ := run_append_own_at (P := Try.prog) w base t ty 65 i0 _ 4 32 ht hi0 hz0 hz1 hz2 rfl (by decide) _ 0 [] (World.ownsRow_nil w base _ 4) ad m cx (news.flatMap WayC.vals) hnl hc hone hmx (by omega) hbase
    obtain ⟨A2, c2, rfl, ho⟩ := WAt.of_own (ws := news) h2
    exact ⟨A2, c2, w', hrun, ho, Turned.of_grown h3 fun i e => e, fun _ => (Turned.of_grown (F := fun _ => False) h3 fun i e => nomatch e).keep_new (fun _ e => e.elim), fun b hb => by
      rcases h5 with e | e
      · rw [e] at hb; exact Or.inl hb
      · rw [e] at hb; injection hb with hb; exact Or.inr (by omega)⟩
  · by_cases hr : n + m ≤ c
    · have hlt : ∀ j, j < (news.flatMap WayC.vals).length → n * 4 + j < c * 4 := fun j hj => by omega
      have hrun := run_append_room_cells (P := Try.prog) w t ty 65 i0 ht hi0 g off n c ad m cx (news.flatMap WayC.vals) (by rw [hz1]; exact hnl) hc hone hr (fun j hj => by rw [hz1, Nat.add_assoc]; exact (hg4 _ (hlt j hj)).1) (fun j hj => by rw [hz1, Nat.add_assoc]; exact (hg4 _ (hlt j hj)).2)
      rw [hz1] at hrun
      have hT := setCells_block g (news.flatMap WayC.vals) (off + n * 4) w
      refine ⟨_, c, _, hrun, ⟨by rw [List.length_append, hown.length, hl], ⟨hr, hcp.2⟩, Or.inr ⟨g, off, rfl, hg1, Nat.lt_of_lt_of_le hg2 hT.size, fun j u hu => ?_, fun j hj => ?_⟩⟩, hT.mono fun i _ e => by subst e; rfl, fun h => by omega, fun b hb => Or.inl hb⟩
      · rw [← hfl] at hu
        rcases Nat.lt_or_ge j (ws.flatMap WayC.vals).length with hj | hj
        · rw [List.getElem?_append_left hj] at hu
          rw [World.cell?_setCells_out g _ (off + n * 4) w ⟨g, off + j, none⟩ (fun _ _ => Or.inl (by show off + j < off + n * 4; omega))]
          exact hg3 j u hu
        · rw [List.getElem?_append_right hj] at hu
          have hj2 : j - (ws.flatMap WayC.vals).length < (news.flatMap WayC.vals).length := (List.getElem?_eq_some_iff.1 hu).1
          have e1 := World.cell?_setCells_in g (news.flatMap WayC.vals) (off + n * 4) w (fun k hk => by rw [Nat.add_assoc]; exact (hg4 _ (hlt k hk)).1) (j - (ws.flatMap WayC.vals).length) hj2
          have e2 : off + n * 4 + (j - (ws.flatMap WayC.vals).length) = off + j := by omega
          rw [e2] at e1
          rw [e1]
          rw [List.getElem?_eq_getElem hj2] at hu
          exact hu
      · exact ⟨World.isSome_setCells g _ _ w _ (hg4 j hj).1, by rw [World.frozen?_setCells]; exact (hg4 j hj).2⟩
    · obtain ⟨v', w', hrun, h2, h3⟩ := run_append_arg_grows (P := Try.prog) w t ty 65 i0 _ 4 32 ht hi0 hz0 hz1 hz2 rfl (by omega) ⟨g, off, none⟩ n c (ws.flatMap WayC.vals) hwl (fun j u hj => by rw [Addr.add_lit]; exact hg3 j u hj) ad m cx (news.flatMap WayC.vals) hnl hc (by omega) hmx (by omega)
      rw [hfl] at h2
      obtain ⟨A2, c2, rfl, ho⟩ := WAt.of_own h2
      exact ⟨A2, c2, w', hrun, ho.lower hbase, Turned.of_grown h3 (fun i e => nomatch e), fun _ => (Turned.of_grown (F := fun _ => False) h3 fun i e => nomatch e).keep_new (fun _ e => e.elim), fun b hb => Or.inr (ho.block b hb).1⟩
/-- append(ways, way), the way in a block of one. -/
theorem wpList_append_way {ops : Array Oper} {rest : List Oper} {o : Oper} {a : Act} {Q : Exit → Act → World → Prop} {w : World} (hgd : o.guard = none) (s x : Operand) (t : TypeId)
    (ho : o.op = .call { callee := .builtin .append, args := #[s, x], argTypes := #[t, t] }) {base n c cx : Nat} {A : Option Addr} {ws : List WayC} {gx : Nat} (p : WayC) (ht : Try.prog.underlying t = some (.slice 65))
    (hs : a.eval s = .slice A n c) (hown : WAt w base A n c ws) (hx0 : a.eval x = .slice (some ⟨gx, 0, none⟩) 1 cx) (hc : ∀ j u, p.vals[j]? = some u → w.cell? ⟨gx, j, none⟩ = some u) (hlen : n ≤ 100000) (hbase : base ≤ w.heap.size)
    (h : ∀ A2 c2 w', WAt w' base A2 (n + 1) c2 (ws ++ [p]) → Turned (fun b => (Value.slice A n c).ownBlock = some b) w w' → (∀ b, (Value.slice A2 (n + 1) c2).ownBlock = some b → (Value.slice A n c).ownBlock = some b ∨ w.heap.size ≤ b) → wpList Try.prog ops Q rest (a.put o.dst (.slice A2 (n + 1) c2)) w') : wpList Try.prog ops Q (o :: rest) a w := by
  refine wpList_plain hgd fun _ hK => ?_
  have ha : ∀ j, (⟨gx, 0, none⟩ : Addr).add j = ⟨gx, j, none⟩ := fun j => by unfold Addr.add; split <;> simp_all
  obtain ⟨A2, c2, w', hr, h2, h3, _, h4⟩ := run_append_ways (cx := cx) (ad := ⟨gx, 0, none⟩) (news := [p]) (m := 1) ht hown rfl (by omega) (fun j u hu => by rw [ha]; exact hc j u (by simpa using hu)) (by omega) hbase o.type
  unfold Oper.wp execOp
  simp only [ho, resolve, invoke, builtin, Sem.run_bind, Sem.run_pure, Result.andThen_ok, List.map_toArray, List.map_cons, List.map_nil, hs, hx0, hr]
  exact hK _ _ (h A2 c2 w' h2 h3 h4)
/-- What a cut at the end with its room cut off, what a cut at the head is. -/
def dropWA (A : Option Addr) (c s : Nat) : Option Addr := if c = s then A else A.map (·.add (s * 4))
theorem run_drop_way {t : TypeId} (ht : Try.prog.underlying t = some (.slice (Try.prog.elem t))) (he : Try.prog.elem t = 65) (n c s : Nat) (A : Option Addr) (hs : s ≤ n) (w : World) :
    (Instr.slice t (.slice A n c) (some (.int .i64 (s : Int))) none none).run Try.prog w = .ok (.slice (dropWA A c s) (n - s) (c - s)) w := by
  obtain ⟨i0, hi0, hz0, hz1, hz2⟩ := info_parts infoWay
  rw [run_slice_l (P := Try.prog) (w := w) t A n c ht .i64 s (by omega) (by omega)]
  simp [sizeOf, typeInfo, he, hi0, hz1, sliced, dropWA]
/-- append(ways[:k:k], ways[k+1:]...). -/
theorem run_out_way {w : World} {base n c k t : Nat} {A : Option Addr} {ws : List WayC} (ht : Try.prog.underlying t = some (.slice 65)) (hown : WAt w base A n c ws) (hk : k < n) (hn : n ≤ 100000) (hbase : base ≤ w.heap.size) (ty : TypeId) :
    ∃ A2 c2 w', (Builtin.append_ #[t, t] ty #[.slice A k k, .slice (dropWA A c (k + 1)) (n - (k + 1)) (c - (k + 1))]).run Try.prog w = .ok (.slice A2 (n - 1) c2) w' ∧ WAt w' base A2 (n - 1) c2 (ws.eraseIdx k) ∧ Keep w w' ∧ (∀ b, (Value.slice A2 (n - 1) c2).ownBlock = some b → (Value.slice A n c).ownBlock = some b ∨ w.heap.size ≤ b) := by
  obtain ⟨i0, hi0, hz0, hz1, hz2⟩ := info_parts infoWay
  have hcp := hown.cap
  have hwl := wvals_len ws
  have hlen := hown.length
  rcases hown.lies with ⟨_, rfl⟩ | ⟨g, off, rfl, hg1, hg2, hg3, hg4⟩
  · omega
  · have hhead : WAt w base (some ⟨g, off, none⟩) k k (ws.take k) := by
      refine ⟨by rw [List.length_take]; omega, ⟨Nat.le_refl _, by omega⟩, Or.inr ⟨g, off, rfl, hg1, hg2, fun j u hu => hg3 j u ?_, fun j hj => hg4 j (by omega)⟩⟩
      have e : ws.flatMap WayC.vals = (ws.take k).flatMap WayC.vals ++ (ws.drop k).flatMap WayC.vals := by rw [← List.flatMap_append, List.take_append_drop]
      rw [e, List.getElem?_append_left (List.getElem?_eq_some_iff.1 hu).1]; exact hu
    by_cases hm : n - (k + 1) = 0
    · have e : ws.eraseIdx k = ws.take k := by
        rw [List.eraseIdx_eq_take_drop_succ, List.drop_of_length_le (by omega), List.append_nil]
      rw [e, show n - 1 = k by omega, hm]
      refine ⟨_, k, w, ?_, hhead, Keep.refl w, fun b e => Or.inl e⟩
      obtain ⟨ad, had⟩ : ∃ ad, dropWA (some ⟨g, off, none⟩) c (k + 1) = some ad := by unfold dropWA; split <;> exact ⟨_, rfl⟩
      rw [had]
      exact run_append_room_cells (P := Try.prog) w t ty 65 i0 ht hi0 g off k k ad 0 (c - (k + 1)) [] (by simp) (fun j u hu => by simp at hu) (fun u hu => by simp at hu) (by omega) (fun j hj => by simp at hj) (fun j hj => by simp at hj)
    · have hne : ¬ c = k + 1 := by omega
      have ead : dropWA (some ⟨g, off, none⟩) c (k + 1) = some ⟨g, off + (k + 1) * 4, none⟩ := by
        rw [dropWA, if_neg hne]; simp only [Option.map_some, Addr.add]; split <;> simp_all
      obtain ⟨A2, c2, w', hr, h2, h3, h5, h4⟩ := run_append_ways (cx := c - (k + 1)) (ad := ⟨g, off + (k + 1) * 4, none⟩) (news := ws.drop (k + 1)) (m := n - (k + 1)) ht hhead (by rw [List.length_drop]; omega) (by omega) (fun j u hu => by
        rw [Addr.add_lit, Nat.add_assoc]
        refine hg3 _ u ?_
        have e : ws.flatMap WayC.vals = (ws.take (k + 1)).flatMap WayC.vals ++ (ws.drop (k + 1)).flatMap WayC.vals := by rw [← List.flatMap_append, List.take_append_drop]
        have l1 : ((ws.take (k + 1)).flatMap WayC.vals).length = (k + 1) * 4 := by rw [wvals_len, List.length_take]; congr 1; omega
        rw [e, List.getElem?_append_right (by omega), l1, Nat.add_sub_cancel_left]; exact hu) (by omega) hbase ty
      have e1 : k + (n - (k + 1)) = n - 1 := by omega
      have h4' : ∀ b, (Value.slice A2 (n - 1) c2).ownBlock = some b → (Value.slice (some ⟨g, off, none⟩) n c).ownBlock = some b ∨ w.heap.size ≤ b := fun b e => h4 b (by rw [e1]; exact e)
      rw [e1] at hr h2
      rw [ead]
      exact ⟨A2, c2, w', hr, by rw [List.eraseIdx_eq_take_drop_succ]; exact h2, h5 (by omega), h4'⟩
end Go.Proofs.Ytgogafhpchfinaa
/- Both accounts and what is on its way, side by side; X: blocks of other things. -/
namespace Go.Proofs.Ytgogafhpchfinaa
open Go.RowKit
set_option linter.unusedVariables false
structure Line (X : Nat → Prop) (W w : World) (s r own sp sg su pl rp rg rs : Nat) (A : Option Addr) (m c : Nat) (ws : List WayC) : Prop where
  two : Two W w s r own sp sg su pl rp rg rs
  ways : WAt w W.heap.size A m c ws
  ap : ∀ b, (Value.slice A m c).ownBlock = some b → b ≠ s ∧ b ≠ r ∧ ¬ X b
  xs : ∀ b, X b → b ≠ s ∧ b ≠ r ∧ b < w.heap.size
/-- Nothing of X has turned. -/
def Still (X : Nat → Prop) (w w' : World) : Prop := ∀ b, X b → w'.heap[b]? = w.heap[b]?
theorem Still.refl (X : Nat → Prop) (w : World) : Still X w w := fun _ _ => rfl
theorem Still.trans {X : Nat → Prop} {a b c : World} (h : Still X a b) (k : Still X b c) : Still X a c := fun x hx => (k x hx).trans (h x hx)
section
variable {X : Nat → Prop} {W w w' : World} {s r own sp sg su pl rp rg rs m c : Nat} {A : Option Addr} {ws : List WayC}
theorem Line.start (h : Two W w s r own sp sg su pl rp rg rs) (hx : ∀ b, X b → b ≠ s ∧ b ≠ r ∧ b < w.heap.size) : Line X W w s r own sp sg su pl rp rg rs none 0 0 [] :=
  ⟨h, WAt.nothing _ _, fun b hb => by simp [Value.ownBlock] at hb, hx⟩
theorem Line.still_of {F : Nat → Prop} (h : Line X W w s r own sp sg su pl rp rg rs A m c ws) (k : Turned F w w') (hF : ∀ b, X b → ¬ F b) : Still X w w' := fun b hb => k.block b (h.xs b hb).2.2 (hF b hb)
theorem Line.later (h : Line X W w s r own sp sg su pl rp rg rs A m c ws) (k : Keep w w') : Line X W w' s r own sp sg su pl rp rg rs A m c ws :=
  ⟨h.two.later k, h.ways.keep k, h.ap, fun b hb => ⟨(h.xs b hb).1, (h.xs b hb).2.1, Nat.lt_of_lt_of_le (h.xs b hb).2.2 k.size⟩⟩
theorem Line.later_still (h : Line X W w s r own sp sg su pl rp rg rs A m c ws) (k : Keep w w') : Still X w w' := fun b hb => k.block b (h.xs b hb).2.2
theorem Line.sends (h : Line X W w s r own sp sg su pl rp rg rs A m c ws) {p g u : Nat} (h2 : Two W w' s r own p g u pl rp rg rs) (k : Turned (fun b => b = s) w w') : Line X W w' s r own p g u pl rp rg rs A m c ws :=
  ⟨h2, h.ways.turned k (fun b hb e => (h.ap b hb).1 e), h.ap, fun b hb => ⟨(h.xs b hb).1, (h.xs b hb).2.1, Nat.lt_of_lt_of_le (h.xs b hb).2.2 k.size⟩⟩
theorem Line.recs (h : Line X W w s r own sp sg su pl rp rg rs A m c ws) {p g u : Nat} (h2 : Two W w' s r own sp sg su pl p g u) (k : Turned (fun b => b = r) w w') : Line X W w' s r own sp sg su pl p g u A m c ws :=
  ⟨h2, h.ways.turned k (fun b hb e => (h.ap b hb).2.1 e), h.ap, fun b hb => ⟨(h.xs b hb).1, (h.xs b hb).2.1, Nat.lt_of_lt_of_le (h.xs b hb).2.2 k.size⟩⟩
/-- Other things turn. -/
theorem Line.aside {F : Nat → Prop} (h : Line X W w s r own sp sg su pl rp rg rs A m c ws) (k : Turned F w w') (hF : ∀ i, F i → X i ∧ W.heap.size ≤ i) : Line X W w' s r own sp sg su pl rp rg rs A m c ws :=
  ⟨h.two.aside k (fun e => (h.xs s (hF s e).1).1 rfl) (fun e => (h.xs r (hF r e).1).2.1 rfl) (fun i e => (hF i e).2), h.ways.turned k (fun b hb e => (h.ap b hb).2.2 (hF b e).1), h.ap, fun b hb => ⟨(h.xs b hb).1, (h.xs b hb).2.1, Nat.lt_of_lt_of_le (h.xs b hb).2.2 k.size⟩⟩
theorem line_take (h : Line X W w s r own sp sg su pl rp rg rs A m c ws) (life to n : Nat) {E : Int} {P G : Nat} (hE : takeE own sp life to n = E) (hP : takeP own sp life to n = P) (hG : takeG own sp sg life to n = G) {a b d : Int} (ha : a = (life : Int)) (hb : b = (to : Int)) (hc : d = (n : Int)) :
    Calls Try.prog 16 #[.pointer (some ⟨s, 0, none⟩), .int .u64 a, .int .u64 b, .int .u64 d] w fun e w' => e = .returned (.int .i64 E) ∧ Line X W w' s r own P G su pl rp rg rs A m c ws ∧ Turned (fun x => x = s) w w' :=
  (two_take h.two life to n hE hP hG ha hb hc).mono fun e w' q => ⟨q.1, h.sends q.2.1 q.2.2, q.2.2⟩
theorem line_use (h : Line X W w s r own sp sg su pl rp rg rs A m c ws) {E : Int} {U V : Nat} (hE : useE sg su = E) (hU : useU sg su = U) (hV : useV sg su = V) :
    Calls Try.prog 14 #[.pointer (some ⟨s, 0, none⟩)] w fun e w' => e = .returned (.tuple #[.int .u64 (V : Int), .int .i64 E]) ∧ Line X W w' s r own sp sg U pl rp rg rs A m c ws ∧ Turned (fun x => x = s) w w' :=
  (two_use h.two hE hU hV).mono fun e w' q => ⟨q.1, h.sends q.2.1 q.2.2, q.2.2⟩
theorem line_saw (h : Line X W w s r own sp sg su pl rp rg rs A m c ws) (life n : Nat) {E : Int} {P G S : Nat} (hE : sawE rp life n = E) (hP : sawP rp life n = P) (hG : sawG rp rg life n = G) (hS : sawS rp rs life n = S) {a d : Int} (ha : a = (life : Int)) (hc : d = (n : Int)) :
    Calls Try.prog 18 #[.pointer (some ⟨r, 0, none⟩), .int .u64 a, .int .u64 d] w fun e w' => e = .returned (.int .i64 E) ∧ Line X W w' s r own sp sg su pl P G S A m c ws ∧ Turned (fun x => x = r) w w' :=
  (two_saw h.two life n hE hP hG hS ha hc).mono fun e w' q => ⟨q.1, h.recs q.2.1 q.2.2, q.2.2⟩
theorem line_grant (h : Line X W w s r own sp sg su pl rp rg rs A m c ws) (f : Int) {E : Int} {V G : Nat} (hE : grE pl f = E) (hV : grV pl rg rs f = V) (hG : grG pl rg rs f = G) :
    Calls Try.prog 20 #[.pointer (some ⟨r, 0, none⟩), .int .i64 f] w fun e w' => e = .returned (.tuple #[.int .u64 (V : Int), .int .i64 E]) ∧ Line X W w' s r own sp sg su pl rp G rs A m c ws ∧ Turned (fun x => x = r) w w' :=
  (two_grant h.two f hE hV hG).mono fun e w' q => ⟨q.1, h.recs q.2.1 q.2.2, q.2.2⟩
theorem way_new (w : World) (p : WayC) (t : TypeId) : ∀ j u, p.vals[j]? = some u → (w.alloc (.cells p.vals.toArray t)).cell? ⟨w.heap.size, j, none⟩ = some u := fun j u hu => by
  unfold World.cell?; rw [heap_alloc_new]; simpa using hu
/-- append(ways, way{..}). -/
theorem wpList_line_put {ops : Array Oper} {rest : List Oper} {o : Oper} {a : Act} {Q : Exit → Act → World → Prop} (hgd : o.guard = none) (x1 x2 : Operand) (t : TypeId)
    (ho : o.op = .call { callee := .builtin .append, args := #[x1, x2], argTypes := #[t, t] }) {cx : Nat} (p : WayC) (ht : Try.prog.underlying t = some (.slice 65))
    (h : Line X W w s r own sp sg su pl rp rg rs A m c ws) (hm : m ≤ 1000) (hs : a.eval x1 = .slice A m c) {gx : Nat} (hgx : gx = w.heap.size) (hx0 : a.eval x2 = .slice (some ⟨gx, 0, none⟩) 1 cx)
    (hK : ∀ A2 c2 w', Line X W w' s r own sp sg su pl rp rg rs A2 (m + 1) c2 (ws ++ [p]) → Still X w w' → (∀ b, b < w.heap.size → (Value.slice A m c).ownBlock ≠ some b → w'.heap[b]? = w.heap[b]?) → wpList Try.prog ops Q rest (a.put o.dst (.slice A2 (m + 1) c2)) w') :
    wpList Try.prog ops Q (o :: rest) a (w.alloc (.cells p.vals.toArray 65)) := by
  subst hgx
  have k1 : Keep w (w.alloc (.cells p.vals.toArray 65)) := (Keep.refl w).alloc _ _
  have h1 := h.later k1
  have hsz := h.two.kp.size
  refine wpList_append_way hgd x1 x2 t ho p ht hs h1.ways hx0 (way_new w p _) (by omega) (by have := k1.size; omega) fun A2 c2 w' h2 h3 h4 => ?_
  have hb : ∀ b, (Value.slice A m c).ownBlock = some b → W.heap.size ≤ b := fun b hb => (h.ways.block b hb).1
  have h5 : Turned (fun b => (Value.slice A m c).ownBlock = some b) w w' := (Turned.of_keep (F := fun b => (Value.slice A m c).ownBlock = some b) k1).trans h3 fun i e => Or.inl e
  refine hK A2 c2 w' ⟨h.two.aside h5 (fun e => (h.ap s e).1 rfl) (fun e => (h.ap r e).2.1 rfl) hb, h2, fun b e => ?_, fun b hx => ⟨(h.xs b hx).1, (h.xs b hx).2.1, Nat.lt_of_lt_of_le (h.xs b hx).2.2 h5.size⟩⟩ (h.still_of h5 fun b hx e => (h.ap b e).2.2 hx) (fun b hlt hne => h5.block b hlt hne)
  rcases h4 b e with e | e
  · exact h.ap b e
  · have h6 := k1.size
    refine ⟨fun e2 => ?_, fun e2 => ?_, fun hx => ?_⟩
    · have := h.two.sen.lt; omega
    · have := h.two.rcv.lt; omega
    · have := (h.xs b hx).2.2; omega
/-- append(ways, way{..}), as one operation. -/
theorem wp_line_put {o : Oper} {a : Act} {K : Act → World → Prop} {Q : Exit → Act → World → Prop} {x1 x2 : Operand} (t : TypeId) {cx : Nat} (p : WayC) (ht : Try.prog.underlying t = some (.slice 65))
    (h : Line X W w s r own sp sg su pl rp rg rs A m c ws) (hm : m ≤ 1000) (ho : o.op = .call { callee := .builtin .append, args := #[x1, x2], argTypes := #[t, t] }) (hs : a.eval x1 = .slice A m c) {gx : Nat} (hgx : gx = w.heap.size) (hx0 : a.eval x2 = .slice (some ⟨gx, 0, none⟩) 1 cx)
    (hK : ∀ A2 c2 w', Line X W w' s r own sp sg su pl rp rg rs A2 (m + 1) c2 (ws ++ [p]) → Still X w w' → (∀ b, b < w.heap.size → (Value.slice A m c).ownBlock ≠ some b → w'.heap[b]? = w.heap[b]?) → K (a.put o.dst (.slice A2 (m + 1) c2)) w') :
    o.wp Try.prog a (w.alloc (.cells p.vals.toArray 65)) K Q := by
  subst hgx
  have k1 : Keep w (w.alloc (.cells p.vals.toArray 65)) := (Keep.refl w).alloc _ _
  have h1 := h.later k1
  have ha : ∀ j, (⟨w.heap.size, 0, none⟩ : Addr).add j = ⟨w.heap.size, j, none⟩ := fun j => by unfold Addr.add; split <;> simp_all
  obtain ⟨A2, c2, w', hr, h2, h3, _, h4⟩ := run_append_ways (cx := cx) (ad := ⟨w.heap.size, 0, none⟩) (news := [p]) (m := 1) ht h1.ways rfl (by omega) (fun j u hu => by rw [ha]; exact way_new w p _ j u (by simpa using hu)) (by omega) (by have := k1.size; have := h.two.kp.size; omega) o.type
  unfold Oper.wp execOp
  simp only [ho, resolve, invoke, builtin, Sem.run_bind, Sem.run_pure, Result.andThen_ok, List.map_toArray, List.map_cons, List.map_nil, hs, hx0, hr]
  have hb : ∀ b, (Value.slice A m c).ownBlock = some b → W.heap.size ≤ b := fun b hb => (h.ways.block b hb).1
  have h5 : Turned (fun b => (Value.slice A m c).ownBlock = some b) w w' := (Turned.of_keep (F := fun b => (Value.slice A m c).ownBlock = some b) k1).trans h3 fun i e => Or.inl e
  refine hK A2 c2 w' ⟨h.two.aside h5 (fun e => (h.ap s e).1 rfl) (fun e => (h.ap r e).2.1 rfl) hb, h2, fun b e => ?_, fun b hx => ⟨(h.xs b hx).1, (h.xs b hx).2.1, Nat.lt_of_lt_of_le (h.xs b hx).2.2 h5.size⟩⟩ (h.still_of h5 fun b hx e => (h.ap b e).2.2 hx) (fun b hlt hne => h5.block b hlt hne)
  rcases h4 b e with e | e
  · exact h.ap b e
  · have h6 := k1.size
    refine ⟨fun e2 => ?_, fun e2 => ?_, fun hx => ?_⟩
    · have := h.two.sen.lt; omega
    · have := h.two.rcv.lt; omega
    · have := (h.xs b hx).2.2; omega
/-- One is taken out. -/
theorem Line.out (h : Line X W w s r own sp sg su pl rp rg rs A m c ws) {k : Nat} (hk : k < m) (hm : m ≤ 1000) (ht : Try.prog.underlying 58 = some (.slice 65)) (ty : TypeId) :
    ∃ A2 c2 w', (Builtin.append_ #[58, 58] ty #[.slice A k k, .slice (dropWA A c (k + 1)) (m - (k + 1)) (c - (k + 1))]).run Try.prog w = .ok (.slice A2 (m - 1) c2) w' ∧
      Line X W w' s r own sp sg su pl rp rg rs A2 (m - 1) c2 (ws.eraseIdx k) ∧ Keep w w' := by
  obtain ⟨A2, c2, w', hr, h2, h3, h4⟩ := run_out_way (t := 58) ht h.ways hk (by omega) h.two.kp.size ty
  refine ⟨A2, c2, w', hr, ⟨h.two.later h3, h2, fun b e => ?_, fun b hx => ⟨(h.xs b hx).1, (h.xs b hx).2.1, Nat.lt_of_lt_of_le (h.xs b hx).2.2 h3.size⟩⟩, h3⟩
  rcases h4 b e with e | e
  · exact h.ap b e
  · refine ⟨fun e2 => ?_, fun e2 => ?_, fun hx => ?_⟩
    · have := h.two.sen.lt; omega
    · have := h.two.rcv.lt; omega
    · have := (h.xs b hx).2.2; omega
end
end Go.Proofs.Ytgogafhpchfinaa
/- Maps of one's own whose elements are numbers of 64 bits, told by a function of the key. -/
namespace Go.Proofs.Ytgogafhpchfinaa
open Go.RowKit Go.Maps
set_option linter.unusedVariables false
set_option linter.unusedSimpArgs false
/-- A map of at most n elements in block B: at key enc x stands f x. -/
def MapU {κ : Type} (kt : TypeId) (enc : κ → Value) (dom : κ → Prop) (w : World) (B n : Nat) (f : κ → Nat) : Prop :=
  ∃ D : DataW Unit, w.ownsMap Try.prog kt (plainElem Try.prog 22) B n D ∧ ∀ x l, dom x → keyOf Try.prog kt (enc x) = some l → D.atKey l (.lit (.int .u64 0)) = .lit (.int .u64 (f x : Int))
theorem u64_zero (w : World) : (zeroValue 22).run Try.prog w = .ok (.int .u64 0) w := by kernel_rfl
theorem u64_lit {n : Nat} (h : n < 18446744073709551616) : (Lit.int .u64 (n : Int)).wf = true := by
  simp [Lit.wf, IntKind.min, IntKind.max, IntKind.signed, IntKind.bits]; omega
namespace MapU
variable {κ : Type} {kt t : TypeId} {enc : κ → Value} {dom : κ → Prop} {w w' : World} {B n : Nat} {f : κ → Nat}
theorem made (w : World) : MapU kt enc dom (w.alloc (.map #[] 0)) w.heap.size 0 (fun _ => 0) :=
  ⟨_, World.ownsMap_made _ _ _ _, fun x l _ _ => atKey_of_not_has (by rfl) _⟩
theorem block (h : MapU kt enc dom w B n f) (e : w'.heap[B]? = w.heap[B]?) : MapU kt enc dom w' B n f := by
  obtain ⟨D, ⟨es, clock, hb, r⟩, h2⟩ := h
  exact ⟨D, ⟨es, clock, e.trans hb, r⟩, h2⟩
theorem lt (h : MapU kt enc dom w B n f) : B < w.heap.size := by obtain ⟨D, h1, _⟩ := h; exact h1.lt
theorem look (h : MapU kt enc dom w B n f) (K : Keyed Try.prog kt) (ht : Try.prog.underlying t = some (.map kt 22)) {x : κ} (hx : dom x) {l : Lit} (hk : keyOf Try.prog kt (enc x) = some l) :
    (Instr.lookup t (.map (some B)) (enc x) false).run Try.prog w = .ok (.int .u64 (f x : Int)) w := by
  obtain ⟨D, h1, h2⟩ := h
  obtain ⟨c, hrun, hat, _⟩ := h1.lookup_int K ht Try.underlying22 (u64_zero w) hk
  rw [h2 x l hx hk] at hat
  injection hat with hat; injection hat with _ hat
  rw [hrun, ← hat]
theorem put [DecidableEq κ] (h : MapU kt enc dom w B n f) (K : Keyed Try.prog kt) (ht : Try.prog.underlying t = some (.map kt 22)) (hinj : ∀ a b, dom a → dom b → enc a = enc b → a = b) {x : κ} (hx : dom x) {l : Lit} (hk : keyOf Try.prog kt (enc x) = some l) (hn : n ≤ 1000) {v : Nat} (hv : v < 18446744073709551616) :
    ∃ w', (Instr.mapUpdate t (.map (some B)) (enc x) (.int .u64 (v : Int))).run Try.prog w = .ok () w' ∧ MapU kt enc dom w' B (n + 1) (fun y => if y = x then v else f y) ∧ w.grownBy w' (some B) := by
  obtain ⟨D, h1, h2⟩ := h
  obtain ⟨w', r1, r2, r3⟩ := h1.update K ht (by unfold maxLen; omega) hk (plainElem_int Try.underlying22 (u64_lit hv))
  refine ⟨w', r1, ⟨_, r2, fun y ly hy hly => ?_⟩, r3⟩
  by_cases e : y = x
  · subst e
    rw [hk] at hly
    injection hly with hly
    subst hly
    show _ = DataW.lit (Lit.int .u64 ((if y = y then v else f y : Nat) : Int))
    rw [atKey_put_same h1.isMap (K.key hk), if_pos rfl]
  · show _ = DataW.lit (Lit.int .u64 ((if y = x then v else f y : Nat) : Int))
    rw [if_neg e]
    have hne : ly ≠ l := fun e2 => e (hinj y x hy hx (K.inj (e2 ▸ hly) hk))
    rw [atKey_put_other hne]
    exact h2 y ly hy hly
end MapU
/-- Keys that are one number, keys that are two. -/
def enc1 (a : Nat) : Value := .int .u64 (a : Int)
def enc2 (a : Nat × Nat) : Value := .agg #[.int .u64 (a.1 : Int), .int .u64 (a.2 : Int)]
def dom1 (a : Nat) : Prop := a < 18446744073709551616
def dom2 (a : Nat × Nat) : Prop := a.1 < 18446744073709551616 ∧ a.2 < 18446744073709551616
theorem keyed1 : Keyed Try.prog 22 := int_keyed Try.underlying22
theorem laidOutC : laidOutB Try.prog = true := by kernel_rfl
theorem wideC : (match Try.prog.underlying 57 with | some (.array _ _) | some (.struct _) => true | _ => false) = true := by rw [Try.underlying57]
theorem keyed2 : Keyed Try.prog 57 := Keyed.of_law (deep_law_laid laidOutC (m := 2) (by omega) (of_decide_eq_true (by kernel_rfl)) (by kernel_rfl) wideC)
theorem key1 {a : Nat} (h : dom1 a) : ∃ l, keyOf Try.prog 22 (enc1 a) = some l := ⟨_, keyOf_int_mk Try.underlying22 (u64_lit h)⟩
theorem cells64 : Try.prog.cellsOf 22 = 1 := by kernel_rfl
theorem cellsPair : Try.prog.cellsOf 57 = 2 := by kernel_rfl
theorem formed2 {c0 c1 : Value} : (Value.agg #[c0, c1]).formed Try.prog 57 = true := by simp [Value.formed, Try.underlying57, cellsPair]
theorem key2 {a : Nat × Nat} (h : dom2 a) : ∃ l, keyOf Try.prog 57 (enc2 a) = some l := by
  have kt : Try.prog.keyType 57 = true := by kernel_rfl
  have w1 := u64_lit h.1
  have w2 := u64_lit h.2
  obtain ⟨d, hd⟩ : ∃ d, Try.prog.types.size = d + 1 := ⟨Try.prog.types.size - 1, by have : 0 < Try.prog.types.size := of_decide_eq_true (by kernel_rfl); omega⟩
  have one : ∀ n : Nat, (Lit.int .u64 (n : Int)).wf = true → Try.prog.keyLits (d + 1) 22 [.int .u64 (n : Int)] = some [.int .u64 (n : Int)] := fun n hn => by
    unfold Program.keyLits
    rw [Try.underlying22]
    simp [hn]
  have two : Try.prog.keyLits (Try.prog.types.size + 1) 57 [.int .u64 (a.1 : Int), .int .u64 (a.2 : Int)] = some [.int .u64 (a.1 : Int), .int .u64 (a.2 : Int)] := by
    rw [hd]
    unfold Program.keyLits
    rw [Try.underlying57]
    simp [cellsPair, cells64, List.range_succ, one _ w1, one _ w2]
  refine ⟨.string (keyBytes [.int .u64 (a.1 : Int), .int .u64 (a.2 : Int)]), ?_⟩
  unfold keyOf
  rw [Try.underlying57]
  show (if Try.prog.keyType 57 && (enc2 a).formed Try.prog 57 then _ else none) = _
  rw [kt, show (enc2 a).formed Try.prog 57 = true from formed2]
  simp only [Bool.and_self, if_true]
  rw [show (enc2 a).cells.toList = [.int .u64 (a.1 : Int), .int .u64 (a.2 : Int)] from rfl, two]
  rfl
theorem inj1 : ∀ a b, dom1 a → dom1 b → enc1 a = enc1 b → a = b := fun a b _ _ h => by
  unfold enc1 at h; injection h with _ h; omega
theorem inj2 : ∀ a b, dom2 a → dom2 b → enc2 a = enc2 b → a = b := fun a b _ _ h => by
  obtain ⟨a1, a2⟩ := a
  obtain ⟨b1, b2⟩ := b
  unfold enc2 at h
  simp at h
  have e1 : a1 = b1 := by have := h.1; omega
  have e2 : a2 = b2 := by have := h.2; omega
  rw [e1, e2]
end Go.Proofs.Ytgogafhpchfinaa
