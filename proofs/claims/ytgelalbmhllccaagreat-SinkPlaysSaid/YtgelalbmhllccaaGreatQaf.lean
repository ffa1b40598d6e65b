/- The library's slices.Clone, Grow and Concat at bytes. -/
import Derived.Test.YtgelalbmhllccaaGreatQaa
import Derived.WalkLawsBesides
import Derived.WalkSpells
import Derived.Test.YtgelalbmhllccaaGreatQae
import Derived.Test.YtgelalbmhllccaaGreatQad
import Derived.Test.YtgelalbmhllccaaGreatQac
import Derived.Laws.CopyOwn
namespace Go.Proofs.YtgelalbmhllccaaGreat
open Go.RowKit
set_option maxRecDepth 100000 in
theorem clone_any (B n c : Nat) (A : Option Addr) (xs : List Nat) (w : World) (h : Bytes w B A n xs) (hB : B ≤ w.heap.size) (hn : n ≤ 140737488355328) :
    Calls Tryz.prog 96 #[.slice A n c] w (NewBytes w xs) := by
  cases A with
  | none =>
    have h0 : n = 0 := by
      rcases Nat.eq_zero_or_pos n with e | e
      · exact e
      · obtain ⟨b, off, e, _⟩ := h.2.2 e; cases e
    subst h0
    have hx : xs = [] := List.eq_nil_of_length_eq_zero h.1
    subst hx
    have hq := fun (w : World) => Lib.run_eql_slice_nil (P := Tryz.prog) w 43 5 none 0 c 0 0 Tryz.underlying43
    clear h
    go_enter Tryz.func96, Tryz.ntmps96
    go_wp2_with fail
    go_ret
    exact ⟨none, 0, 0, rfl, Own.none_ _ _ _, Keep.refl _⟩
  | some ad =>
    have hq := fun (w : World) => Lib.run_eql_slice_nil (P := Tryz.prog) w 43 5 (some ad) n c 0 0 Tryz.underlying43
    have HO := Own.lit w 5 0 [] #[] rfl rfl (by omega) (by decide)
    have HB := Lib.hid (h.alloc hB (.cells #[] 5))
    clear h
    go_enter Tryz.func96, Tryz.ntmps96
    go_wp2_with (at_builtin; refine wpList_append_bytes rfl _ _ 43 rfl Tryz.underlying43 info5 rfl HO rfl HB.out ?c1 ?c2 ?_)
    case c1 => omega
    case c2 => simp
    intro A' c' w' hown hgr _
    have hk : Keep w w' := ((Keep.refl w).alloc #[] 5).grown hgr (fun k hk => by cases hk; exact Nat.le_refl _)
    go_wp2_with fail
    go_ret
    exact ⟨A', _, c', rfl, by simpa using hown, hk⟩
/-- append(nil, make([]byte, n)...), as the translation has it. -/
theorem run_append_zeros_nil {P : Program} {t u e : TypeId} (ht : P.underlying t = some (.slice e)) {k : IntKind} (hu : P.underlying u = some (.int k))
    (hi : (P.info? e).map (fun i => (i.zero, i.size, i.bytes)) = some (some (.int .u8 0), 1, 1)) (n : Nat) (h0 : 0 < n) (hn : n ≤ 140737488355328) (w : World) (ty : TypeId) :
    ∃ c w', (Builtin.append_ #[t, u] ty #[.slice none 0 0, .int .i64 (n : Int)]).run P w = .ok (.slice (some ⟨w.heap.size, 0, none⟩) n c) w' ∧ Own w' w.heap.size e (some ⟨w.heap.size, 0, none⟩) n c (List.replicate n 0) ∧ Keep w w' := by
  obtain ⟨i0, hi0, hz0, hz1, hz2⟩ := info_parts hi
  have hw : IntKind.i64.wrap (n : Int) = (n : Int) := IntWalk.i64_in _ (by omega)
  have hn0 : n ≠ 0 := by omega
  have hl : ¬ ((n : Int) < 0) := by omega
  have h63' : ¬ (9223372036854775807 < (n : Int)) := by omega
  have h48' : ¬ (281474976710656 < Builtin.nextslicecap n 0 * i0.bytes) := by rw [nextslicecap_zero h0, hz2]; omega
  have h48'' : ¬ ((281474976710656 : Int) < (n : Int) * (i0.bytes : Int)) := by rw [hz2]; omega
  have h48c : ¬ (281474976710656 < Builtin.nextslicecap n 0) := by rw [nextslicecap_zero h0]; omega
  have hge := grownCap_ge w n 0 e
  have hcm := grownCap_le_maxLen w n 0 e (by unfold maxLen; omega)
  refine ⟨grownCap w n 0 e, w.drew.alloc (.cells (Builtin.zeroCells #[.int .u8 0] n ++ Builtin.zeroCells #[.int .u8 0] (grownCap w n 0 e - n)) e), ?_, ?_, ?_⟩
  · simp [Builtin.append_, run_underlying ht, run_underlying hu, asInt, asIntOf, sizeOf, typeInfo, zeroValue, hi0, hz0, hz1, hz2, hw, hn0, hl, h63', h48c, Question.forced, run_firstCells_none, newRow, grownCap, Value.cells]
    intro h
    omega
  · refine ⟨⟨by simp [u8s], .inr ⟨w.heap.size, _, _, rfl, Nat.le_refl _, heap_alloc_new w.drew _, hge, hcm, ?_, ?_⟩⟩, AllB.zeros n⟩
    · simp [size_zeroCells]; omega
    · rw [u8s_zeros]
      apply List.ext_getElem
      · simp [Builtin.zeroCells]
      · intro i h1 h2
        simp [Builtin.zeroCells, Nat.mod_one]
  · exact ((Keep.refl w).drew).alloc _ _
theorem wpList_append_zeros {P : Program} {w : World} {ops : Array Oper} {rest : List Oper} {o : Oper} {a : Act} {Q : Exit → Act → World → Prop} (hgd : o.guard = none) (s x : Operand) (t u : TypeId)
    (ho : o.op = .call { callee := .builtin .append, args := #[s, x], argTypes := #[t, u] }) {e : TypeId} {k : IntKind} (ht : P.underlying t = some (.slice e)) (hu : P.underlying u = some (.int k))
    (hi : (P.info? e).map (fun i => (i.zero, i.size, i.bytes)) = some (some (.int .u8 0), 1, 1)) (n : Nat) (hs : a.eval s = .slice none 0 0) (hx : a.eval x = .int .i64 (n : Int)) (h0 : 0 < n) (hn : n ≤ 140737488355328)
    (h : ∀ c w', Own w' w.heap.size e (some ⟨w.heap.size, 0, none⟩) n c (List.replicate n 0) → Keep w w' → wpList P ops Q rest (a.put o.dst (.slice (some ⟨w.heap.size, 0, none⟩) n c)) w') : wpList P ops Q (o :: rest) a w := by
  refine wpList_plain hgd fun _ hK => ?_
  obtain ⟨c, w', hr, h2, h3⟩ := run_append_zeros_nil (P := P) ht hu hi n h0 hn w o.type
  unfold Oper.wp execOp
  simp only [ho, resolve, invoke, builtin, Sem.run_bind, Sem.run_pure, Result.andThen_ok, List.map_toArray, List.map_cons, List.map_nil, hs, hx, hr]
  exact hK _ _ (h c w' h2 h3)
theorem Own.nothing {w : World} {base e n c : Nat} {A : Option Addr} {xs : List Nat} (h : Own w base e A n c xs) : Own w base e A 0 c [] := by
  rcases h.1.2 with ⟨hv, h0⟩ | ⟨g, cap, cur, hv, hg, hh, hle, hm, hs, _⟩
  · injection hv with e1 e2 e3
    subst e1; subst e3
    exact Own.none_ _ _ _
  · injection hv with e1 e2 e3
    subst e1; subst e3
    exact ⟨⟨by simp [u8s], .inr ⟨g, _, cur, rfl, hg, hh, Nat.zero_le _, hm, hs, by simp [u8s]⟩⟩, fun x hx => by simp at hx⟩
set_option maxRecDepth 100000 in
theorem grow_nil (n : Nat) (w : World) (hn : n ≤ 140737488355328) :
    Calls Tryz.prog 144 #[.slice none 0 0, .int .i64 (n : Int)] w (NewBytes w []) := by
  by_cases h0 : n = 0
  · subst h0
    go_enter Tryz.func144, Tryz.ntmps144
    go_wp2_with fail
    go_ret
    exact ⟨none, 0, 0, rfl, Own.none_ _ _ _, Keep.refl _⟩
  · have b1 : ¬ ((n : Int) < 0) := by omega
    have b2 : (0 : Int) < (n : Int) := by omega
    have b3 : (0 : Int) ≤ (n : Int) := by omega
    go_enter Tryz.func144, Tryz.ntmps144
    go_wp2_with (at_builtin; refine wpList_append_zeros rfl _ _ 43 3 rfl Tryz.underlying43 Tryz.underlying3 info5 n rfl rfl (by omega) hn ?_)
    intro c w' hown hk
    have HO := Lib.hid hown.nothing
    have HK := Lib.hid hk
    have hle : (n : Int) ≤ (c : Int) := by
      rcases hown.1.2 with ⟨hv, h0⟩ | ⟨g, cap, cur, hv, _, _, hle, _⟩
      · omega
      · injection hv with _ _ h3; omega
    have hc0 : (0 : Int) ≤ (c : Int) := by omega
    clear hown hk
    go_wp2_with fail
    go_ret
    exact ⟨_, _, _, rfl, HO.out, HK.out⟩
/-- Rows, one behind the other. -/
def joinN (rs : List RowV) : List Nat := rs.flatMap (·.xs)
def sizesN (rs : List RowV) : Nat := (rs.map (·.n)).sum
theorem take_snoc_at {α : Type} {l : List α} {k : Nat} {r : α} (h : l[k]? = some r) : l.take (k + 1) = l.take k ++ [r] := by
  rw [List.take_add_one, h]; rfl
theorem sizesN_succ {rs : List RowV} {k : Nat} {r : RowV} (h : rs[k]? = some r) : sizesN (rs.take (k + 1)) = sizesN (rs.take k) + r.n := by
  rw [take_snoc_at h]; simp [sizesN]
theorem joinN_succ {rs : List RowV} {k : Nat} {r : RowV} (h : rs[k]? = some r) : joinN (rs.take (k + 1)) = joinN (rs.take k) ++ r.xs := by
  rw [take_snoc_at h]; simp [joinN]
theorem sizesN_le (rs : List RowV) (k : Nat) : sizesN (rs.take k) ≤ sizesN rs := by
  have h : rs = rs.take k ++ rs.drop k := (List.take_append_drop k rs).symm
  have : sizesN rs = sizesN (rs.take k) + sizesN (rs.drop k) := by
    conv => lhs; rw [h, sizesN, List.map_append, List.sum_append]
    rfl
  omega
/-- Slices of bytes in a row, of whatever capacities. -/
def RowsUp (w : World) (B : Nat) (A : Option Addr) (n : Nat) (rs : List RowV) : Prop :=
  rs.length = n ∧ (∀ r ∈ rs, Bytes w B r.A r.n r.xs) ∧ (0 < n → ∃ b off, A = some ⟨b, off, none⟩ ∧ b < B ∧ ∀ i r, rs[i]? = some r → w.cell? ⟨b, off + i, none⟩ = some (.slice r.A r.n r.c))
theorem RowsAt.up {w : World} {B n : Nat} {A : Option Addr} {rs : List RowV} (h : RowsAt w B A n rs) : RowsUp w B A n rs := ⟨h.1, fun r hr => (h.2.1 r hr).1, h.2.2⟩
theorem RowsUp.below {w w' : World} {B n : Nat} {A : Option Addr} {rs : List RowV} (h : RowsUp w B A n rs) (k : Below B w w') : RowsUp w' B A n rs :=
  ⟨h.1, fun r hr => (h.2.1 r hr).below k, fun hn => by
    obtain ⟨b, off, e, hb, hc⟩ := h.2.2 hn
    exact ⟨b, off, e, hb, fun i r hi => (k.cell (p := ⟨b, off + i, none⟩) hb).trans (hc i r hi)⟩⟩
theorem RowsUp.keep {w w' : World} {B n : Nat} {A : Option Addr} {rs : List RowV} (h : RowsUp w B A n rs) (hB : B ≤ w.heap.size) (k : Keep w w') : RowsUp w' B A n rs := h.below (Below.mono k hB)
theorem RowsUp.at_ {w : World} {B n : Nat} {A : Option Addr} {rs : List RowV} (h : RowsUp w B A n rs) {k : Nat} (hk : k < n) :
    ∃ b off r, A = some ⟨b, off, none⟩ ∧ b < B ∧ rs[k]? = some r ∧ w.cell? ⟨b, off + k, none⟩ = some (.slice r.A r.n r.c) ∧ Bytes w B r.A r.n r.xs := by
  obtain ⟨b, off, e, hb, hc⟩ := h.2.2 (by omega)
  have hl : k < rs.length := by rw [h.1]; exact hk
  have hr := List.getElem?_eq_getElem hl
  exact ⟨b, off, rs[k], e, hb, hr, hc k _ hr, h.2.1 _ (List.getElem_mem hl)⟩
/-- A literal of slices, its place said. -/
theorem RowsUp.lit {w : World} {h : Nat} (hh : w.heap.size = h) (t : TypeId) (n : Nat) (rs : List RowV) (cs : Array Value) (hc : cs = (rs.map RowV.val).toArray) (hl : rs.length = n) (hr : ∀ r ∈ rs, Bytes w h r.A r.n r.xs) :
    RowsUp (w.alloc (.cells cs t)) (h + 1) (some ⟨h, 0, none⟩) n rs := by
  subst hh
  refine ⟨hl, fun r h1 => ((hr r h1).alloc (Nat.le_refl _) _).mono (by omega), fun _ => ⟨_, 0, rfl, by omega, fun i r hi => ?_⟩⟩
  rw [cell_of_row _ _ _ _ _ _ (heap_alloc_new w _), hc, Nat.zero_add]
  simp [hi, RowV.val]
set_option maxRecDepth 100000 in
set_option maxHeartbeats 1000000 in
theorem concat_any (B n c : Nat) (A : Option Addr) (rs : List RowV) (w : World) (h : RowsUp w B A n rs) (hB : B ≤ w.heap.size) (hn : n ≤ 140737488355328) (ht : sizesN rs ≤ 140737488355328) :
    Calls Tryz.prog 113 #[.slice A n c] w (NewBytes w (joinN rs)) := by
  have HH := Lib.hid h
  have HL := Lib.hid h.1
  clear h
  go_enter Tryz.func113, Tryz.ntmps113
  go_wp2_with fail
  go_loop [3, 11] (fun t i => ∃ k : Nat, k ≤ n ∧ i = .int .i64 k ∧ t = .int .i64 (sizesN (rs.take k) : Nat)) (fun _ i => n - (intOf i).toNat)
  case atStart => exact ⟨0, by omega, rfl, rfl⟩
  case round =>
    obtain ⟨k, hk, rfl, rfl⟩ := hrel
    by_cases hlt : k < n
    · obtain ⟨b, off, r, rfl, hb, hr, hc, hby⟩ := HH.out.at_ hlt
      have e0 : (0 : Int) ≤ (k : Int) := Int.natCast_nonneg _
      have e1 : (k : Int) < (n : Int) := by omega
      have h1 := sizesN_succ hr
      have h2 := sizesN_le rs (k + 1)
      have h3 : sizesN (rs.take k) + r.n ≤ 140737488355328 := by omega
      have HS := Lib.hid h1
      obtain ⟨t, ht'⟩ : ∃ t, sizesN (rs.take k) = t := ⟨_, rfl⟩
      rw [ht'] at h3 HS ⊢
      have e2 : (0 : Int) ≤ (t : Int) + (r.n : Int) := by omega
      have e3 : ¬ ((t : Int) + (r.n : Int) < 0) := by omega
      clear h1 h2 hr hby ht'
      go_wp2_with fail
      go_round
      case rel => exact ⟨k + 1, by omega, by go_num, by rw [HS.out]; go_num⟩
      case measure => simp [intOf]; omega
    · obtain rfl : k = n := by omega
      have h3 : sizesN (rs.take k) ≤ 140737488355328 := Nat.le_trans (sizesN_le rs k) ht
      generalize sizesN (rs.take k) = t at *
      go_wp2_with fail
      refine (grow_nil t _ h3).mono ?_
      rintro e w1 ⟨A1, n1, c1, rfl, o1, k1⟩
      obtain rfl : n1 = 0 := o1.length.symm
      have O1 := Lib.hid o1
      have K1 := Lib.hid k1
      clear o1 k1
      go_wp2_with fail
      go_loopw [6, 27] (fun o i wr => ∃ (j : Nat) (Ao : Option Addr) (co : Nat), j ≤ k ∧ i = .int .i64 j ∧ o = .slice Ao (sizesN (rs.take j) : Nat) co ∧ Own wr w.heap.size 5 Ao (sizesN (rs.take j)) co (joinN (rs.take j)) ∧ Keep w wr) (fun _ i _ => k - (intOf i).toNat)
      case atStart => exact ⟨0, A1, c1, by omega, rfl, rfl, O1.out, K1.out⟩
      case round =>
        obtain ⟨j, Ao, co, hj, rfl, rfl, hown, hkeep⟩ := hrel
        have HO := Lib.hid hown
        have HK := Lib.hid hkeep
        clear hown hkeep
        by_cases hlt : j < k
        · obtain ⟨b, off, r, rfl, hb, hr, hc, hby⟩ := (HH.out.keep hB HK.out).at_ hlt
          have e0 : (0 : Int) ≤ (j : Int) := Int.natCast_nonneg _
          have e1 : (j : Int) < (k : Int) := by omega
          have h1 := sizesN_succ hr
          have h2 := sizesN_le rs (j + 1)
          have h3 : sizesN (rs.take j) + r.n ≤ 140737488355328 := by omega
          have HS := Lib.hid h1
          have HJ := Lib.hid (joinN_succ hr)
          have HBY := Lib.hid hby
          clear h1 h2 hr hby
          go_wp2_with (at_builtin; refine wpList_append_bytes rfl _ _ 43 rfl Tryz.underlying43 info5 rfl HO.out rfl HBY.out h3 HK.out.size ?_)
          intro A2 c2 w2 h2 hgr2 _
          have HO2 := Lib.hid h2
          have HK2 := Lib.hid (HK.out.grown hgr2 HO.out.rowLe)
          clear h2 hgr2
          go_wp2_with fail
          go_roundw
          case rel => exact ⟨j + 1, A2, c2, by omega, by go_num, by rw [HS.out], by rw [HS.out, HJ.out]; exact HO2.out, HK2.out⟩
          case measure => simp [intOf]; omega
        · obtain rfl : j = k := by omega
          go_wp2_with fail
          go_ret
          refine ⟨Ao, _, co, rfl, ?_, HK.out⟩
          have e := HO.out
          rw [List.take_of_length_le (by rw [HL.out]; exact Nat.le_refl _)] at e
          rw [List.take_of_length_le (by rw [HL.out]; exact Nat.le_refl _)]
          exact e
end Go.Proofs.YtgelalbmhllccaaGreat
/- The landed code of layer 6: lists of rows copied; the reduced matrix, its rank. -/
namespace Go.Proofs.YtgelalbmhllccaaGreat
open Go.RowKit Lin
set_option linter.unusedVariables false
set_option linter.unusedSimpArgs false
theorem OwnRows.lower {w : World} {base base' e n c : Nat} {A : Option Addr} {rs : List RowV} (h : OwnRows w base e A n c rs) (hb : base' ≤ base) : OwnRows w base' e A n c rs := by
  refine ⟨h.1, ?_⟩
  rcases h.2 with h1 | ⟨g, cap, cur, hv, hg, r⟩
  · exact Or.inl h1
  · exact Or.inr ⟨g, cap, cur, hv, Nat.le_trans hb hg, r⟩
theorem RowsIn.take {w : World} {F : Nat → Prop} {A : Option Addr} {n d : Nat} {rs : List RowV} (h : RowsIn w F A n rs) (hd : d ≤ n) : RowsIn w F A d (rs.take d) :=
  ⟨by rw [List.length_take, h.1]; omega, fun r hr => h.2.1 r (List.mem_of_mem_take hr), fun hp => by
    obtain ⟨b, off, e, hb, hc⟩ := h.2.2 (by omega)
    refine ⟨b, off, e, hb, fun i r hi => hc i r ?_⟩
    rw [List.getElem?_take] at hi
    split at hi
    · exact hi
    · cases hi⟩
end Go.Proofs.YtgelalbmhllccaaGreat
/- The landed code of layer 6: the inverse. -/
namespace Go.Proofs.YtgelalbmhllccaaGreat
open Go.RowKit Lin
set_option linter.unusedVariables false
set_option linter.unusedSimpArgs false
namespace WkF
variable {W w w' : World} {b g n B : Nat} {rs : List RowV}
end WkF
end Go.Proofs.YtgelalbmhllccaaGreat
/- What layer 6's answers are to one another: products, transposes, ranks, inverses (plain). -/
namespace Go.Proofs.YtgelalbmhllccaaGreat.Lin
variable {B : Type} [Add B] [Mul B] [Zero B] [One B]
end Go.Proofs.YtgelalbmhllccaaGreat.Lin
namespace Go.Proofs.YtgelalbmhllccaaGreat
open Lin
/-- A matrix of r rows and c columns. -/
def Sz (r c : Nat) (M : List (List Nat)) : Prop := M.length = r ∧ RowsOk c M
namespace Sz
variable {r c n m : Nat} {M N O : List (List Nat)}
theorem fits (h : Sz r c M) : Go.Proofs.YtgelalbmhllccaaGreat.fits M := fun x hx => by
  cases M with
  | nil => simp at hx
  | cons y M => rw [List.headD_cons, (h.2 x hx).1, (h.2 y (by simp)).1]
theorem sizeC (h : Sz r c M) (hr : 1 ≤ r) : sizeC M = c := by
  rw [Go.Proofs.YtgelalbmhllccaaGreat.sizeC, if_pos h.fits]
  cases M with
  | nil => have := h.1; simp at this; omega
  | cons y M => rw [List.headD_cons, (h.2 y (by simp)).1]
theorem sizeR (h : Sz r c M) : sizeR M = r := by rw [Go.Proofs.YtgelalbmhllccaaGreat.sizeR, if_pos h.fits, h.1]
theorem at_ (h : Sz r c M) {i : Nat} (hi : i < r) : (M.getD i []).length = c ∧ AllB (M.getD i []) := h.2.at_ (by rw [h.1]; exact hi)
theorem wide (h : Sz r c M) : ∀ i, i < r → Wide c (fn M i) := fun i hi => h.2.wide i (by rw [h.1]; exact hi)
theorem ext (h : Sz r c M) (k : Sz r c N) (e : ∀ i, i < r → fn M i = fn N i) : M = N := by
  refine List.ext_getElem (h.1.trans k.1.symm) fun i h1 h2 => ?_
  have hi : i < r := by rw [← h.1]; exact h1
  have := vec_inj ((h.at_ hi).1.trans (k.at_ hi).1.symm) (h.at_ hi).2 (k.at_ hi).2 (e i hi)
  rwa [List.getD_eq_getElem?_getD, List.getElem?_eq_getElem h1, List.getD_eq_getElem?_getD, List.getElem?_eq_getElem h2] at this
end Sz
theorem sm_v (n : Nat) (f : Nat → By) : (sm n f).v = sumX (fun i => (f i).v) n := by
  induction n with
  | zero => rfl
  | succ n ih => rw [sumX, ← ih]; rfl
theorem dotN_lt {x : List Nat} {N : List (List Nat)} {n : Nat} (hx : AllB x) (j : Nat) : dotN x N j n < 256 := sumX_lt _ _ fun i _ => mulN_lt _ (hx.getD i)
theorem rowN_all {x : List Nat} {N : List (List Nat)} {n c : Nat} (hx : AllB x) : AllB (rowN x N n c) := fun y hy => by
  obtain ⟨j, _, rfl⟩ := List.mem_map.1 hy
  exact dotN_lt hx j
theorem vec_rowN {x : List Nat} {N : List (List Nat)} {n c : Nat} (hx : AllB x) (h : Sz n c N) : vec (rowN x N n c) = comb n (fn N) (vec x) := by
  funext j
  by_cases hj : j < c
  · apply By.ext
    rw [vec_v (rowN_all hx), rowN, tab_getD, if_pos hj, comb, sm_v]
    refine sumX_congr fun i hi => ?_
    rw [mul_v, vec_v hx]
    show _ = mulN (x.getD i 0) (vec (N.getD i []) j).v
    rw [vec_v (h.at_ hi).2]
  · rw [vec_wide (n := c) (by rw [rowN, tab_length]) j (by omega)]
    exact (sm_zero laws n fun i hi => by rw [h.wide i hi j (by omega), laws.mul_zero]).symm
section
variable {r n c m : Nat} {M N O : List (List Nat)}
/-- The rank. -/
def rk (M : List (List Nat)) : Nat := (reduceN M).length
end
section
variable {n : Nat} {M N V A : List (List Nat)}
end
end Go.Proofs.YtgelalbmhllccaaGreat
/- What layer 6's answers are to one another: one form, ranks of rows together, solving (plain). -/
namespace Go.Proofs.YtgelalbmhllccaaGreat
open Lin
section
variable {r c s n : Nat} {M N R : List (List Nat)}
theorem Sz.mem (h : Sz r c M) {N : List (List Nat)} (hm : ∀ x ∈ N, x ∈ M) : Sz N.length c N := ⟨rfl, fun x hx => h.2 x (hm x hx)⟩
theorem Sz.append (h : Sz r c M) (k : Sz s c N) : Sz (r + s) c (M ++ N) := ⟨by rw [List.length_append, h.1, k.1], fun x hx => by
  rcases List.mem_append.1 hx with e | e
  · exact h.2 x e
  · exact k.2 x e⟩
theorem Sz.one {v : List Nat} (hl : v.length = c) (ha : AllB v) : Sz 1 c [v] := ⟨rfl, fun x hx => by simp at hx; subst hx; exact ⟨hl, ha⟩⟩
theorem Sz.set (h : Sz r c M) {i : Nat} {v : List Nat} (hl : v.length = c) (ha : AllB v) : Sz r c (M.set i v) := ⟨by rw [List.length_set, h.1], fun x hx => by
  rcases List.mem_or_eq_of_mem_set hx with e | rfl
  · exact h.2 x e
  · exact ⟨hl, ha⟩⟩
end
section
variable {r c s n : Nat} {M N O : List (List Nat)}
end
section
variable {n : Nat} {M : List (List Nat)} {row : List Nat}
end
end Go.Proofs.YtgelalbmhllccaaGreat
/- Matrices side by side in memory: what is held of them on a walk; the code's contracts in those words. -/
namespace Go.Proofs.YtgelalbmhllccaaGreat
open Go.RowKit
set_option linter.unusedVariables false
set_option linter.unusedSimpArgs false
structure MV where
  A : Option Addr
  n : Nat
  c : Nat
  M : List (List Nat)
/-- A matrix in memory. -/
def Mat (w : World) (x : MV) : Prop := ∃ rs, RowsIn w (· < w.heap.size) x.A x.n rs ∧ rowsXs rs = x.M ∧ x.n ≤ x.c
namespace Mat
variable {w w' : World} {x : MV}
theorem keep (h : Mat w x) (k : Keep w w') : Mat w' x := by
  obtain ⟨rs, h1, h2, h3⟩ := h
  exact ⟨rs, (h1.turned (Turned.of_keep (F := fun _ => False) k) fun _ _ e => e).mono fun b hb => Nat.lt_of_lt_of_le hb k.size, h2, h3⟩
theorem len (h : Mat w x) : x.M.length = x.n := by
  obtain ⟨rs, h1, h2, _⟩ := h
  rw [← h2, rowsXs_len, h1.1]
end Mat
/-- Matrices, and what was there has not turned. -/
structure St (W w : World) (l : List MV) : Prop where
  mats : ∀ x ∈ l, Mat w x
  keep : Keep W w
namespace St
variable {W w w' : World} {l : List MV}
theorem start (W : World) : St W W [] := ⟨fun x hx => by simp at hx, Keep.refl W⟩
theorem later (h : St W w l) (k : Keep w w') : St W w' l := ⟨fun x hx => (h.mats x hx).keep k, h.keep.trans k⟩
theorem more {x : MV} (h : St W w l) (m : Mat w' x) (k : Keep w w') : St W w' (l ++ [x]) := ⟨fun y hy => by
  rcases List.mem_append.1 hy with e | e
  · exact (h.mats y e).keep k
  · rw [List.mem_singleton.1 e]; exact m, h.keep.trans k⟩
theorem get {x : MV} (h : St W w l) (i : Nat) (hx : l[i]? = some x) : Mat w x := h.mats x (List.mem_of_getElem? hx)
end St
section
variable {w : World} {A A' : Option Addr} {n n' c c' : Nat} {M N : List (List Nat)}
end
end Go.Proofs.YtgelalbmhllccaaGreat
/- Matrices written out. -/
namespace Go.Proofs.YtgelalbmhllccaaGreat
open Go.RowKit
set_option linter.unusedVariables false
set_option linter.unusedSimpArgs false
end Go.Proofs.YtgelalbmhllccaaGreat
/- Contracts for matrices of known sizes; matrices and rows side by side; matrices laid row by row; parts of matrices. -/
namespace Go.Proofs.YtgelalbmhllccaaGreat
open Go.RowKit
set_option linter.unusedVariables false
set_option linter.unusedSimpArgs false
section
variable {w : World} {A A' : Option Addr} {n n' c c' r k m : Nat} {M N : List (List Nat)}
theorem Mat.cnt (h : Mat w ⟨A, n, c, M⟩) (s : Sz r k M) : n = r := h.len.symm.trans s.1
end
/-- Matrices, rows, and what was there has not turned. -/
structure Sr (W w : World) (l : List MV) (rs : List RowV) : Prop where
  st : St W w l
  rows : ∀ r ∈ rs, Bytes w w.heap.size r.A r.n r.xs
namespace Sr
variable {W w w' : World} {l : List MV} {rs : List RowV}
theorem start (W : World) : Sr W W [] [] := ⟨St.start W, fun x hx => by simp at hx⟩
theorem byte_later {r : RowV} (h : Bytes w w.heap.size r.A r.n r.xs) (k : Keep w w') : Bytes w' w'.heap.size r.A r.n r.xs := (h.keep (Nat.le_refl _) k).mono k.size
theorem later (h : Sr W w l rs) (k : Keep w w') : Sr W w' l rs := ⟨h.st.later k, fun r hr => byte_later (h.rows r hr) k⟩
theorem more {x : MV} (h : Sr W w l rs) (m : Mat w' x) (k : Keep w w') : Sr W w' (l ++ [x]) rs := ⟨h.st.more m k, fun r hr => byte_later (h.rows r hr) k⟩
theorem get {x : MV} (h : Sr W w l rs) (i : Nat) (hx : l[i]? = some x) : Mat w x := h.st.get i hx
theorem row {r : RowV} (h : Sr W w l rs) (i : Nat) (hx : rs[i]? = some r) : Bytes w w.heap.size r.A r.n r.xs := h.rows r (List.mem_of_getElem? hx)
theorem keep (h : Sr W w l rs) : Keep W w := h.st.keep
end Sr
theorem Mat.rowsAt {w : World} {A : Option Addr} {n c r k : Nat} {M : List (List Nat)} (h : Mat w ⟨A, n, c, M⟩) (s : Sz r k M) (hk : k ≤ 1000) : ∃ rs, RowsIn w (· < w.heap.size) A n rs ∧ rowsXs rs = M ∧ (∀ y ∈ rs, y.n = k) := by
  obtain ⟨rs, h1, h2, h3⟩ := h
  refine ⟨rs, h1, h2, fun y hy => ?_⟩
  rw [← (h1.2.1 y hy).1]
  have hm : y.xs ∈ rowsXs rs := List.mem_map.2 ⟨y, hy, rfl⟩
  rw [h2] at hm
  exact (s.2 y.xs hm).1
/-- A list of rows that is being laid: its own block new, its rows anywhere else. -/
def Lay (W w : World) (A : Option Addr) (n c : Nat) (rs : List RowV) : Prop :=
  OwnRows w W.heap.size 43 A n c rs ∧ (∀ r ∈ rs, LiesIn w (fun b => b < w.heap.size ∧ ¬ (Value.slice A n c).ownBlock = some b) r) ∧ Keep W w
namespace Lay
variable {W w w' : World} {A A2 : Option Addr} {n c m c2 : Nat} {rs news : List RowV}
theorem nothing (W : World) : Lay W W none 0 0 [] := ⟨OwnRows.none_ _ _ _, fun r hr => by simp at hr, Keep.refl W⟩
theorem keep (h : Lay W w A n c rs) : Keep W w := h.2.2
theorem later (h : Lay W w A n c rs) (k : Keep w w') : Lay W w' A n c rs :=
  ⟨h.1.keep k, fun r hr => ((h.2.1 r hr).turned (Turned.of_keep (F := fun _ => False) k) fun _ _ e => e).mono fun b hb => ⟨Nat.lt_of_lt_of_le hb.1 k.size, hb.2⟩, h.2.2.trans k⟩
/-- Rows that were there before lie apart. -/
theorem old (h : Lay W w A n c rs) {r : RowV} (hr : LiesIn W (fun b => b < W.heap.size) r) : LiesIn w (fun b => b < w.heap.size ∧ ¬ (Value.slice A n c).ownBlock = some b) r :=
  (hr.turned (Turned.of_keep (F := fun _ => False) h.2.2) fun _ _ e => e).mono fun b hb => ⟨Nat.lt_of_lt_of_le hb h.2.2.size, fun e => by have := h.1.rowLe b e; omega⟩
/-- Rows of one's own lie apart. -/
theorem own (h : Lay W w A n c rs) {B nr cr : Nat} {Ar : Option Addr} {xs : List Nat} (o : Own w B 5 Ar nr cr xs) : LiesIn w (fun b => b < w.heap.size ∧ ¬ (Value.slice A n c).ownBlock = some b) ⟨Ar, nr, cr, xs⟩ :=
  o.lies.mono fun b hb => ⟨(o.1.lt b hb).2, fun e => by
    rcases blocks_apart o h.1 (by decide) with z | z
    · rw [z] at hb; cases hb
    · exact z (hb.trans e.symm)⟩
end Lay
namespace Lay
variable {W w w' : World} {A : Option Addr} {n c g i : Nat} {rs : List RowV}
theorem stored (h : Lay W w (some ⟨g, 0, none⟩) n c rs) (r : RowV) (hr : LiesIn w (fun b => b < w.heap.size ∧ ¬ (Value.slice (some ⟨g, 0, none⟩) n c).ownBlock = some b) r) (i : Nat) : Lay W (w.setCell ⟨g, i, none⟩ (.slice r.A r.n r.c)) (some ⟨g, 0, none⟩) n c (rs.set i r) := by
  have kT : Turned (fun b => b = g) w (w.setCell ⟨g, i, none⟩ (.slice r.A r.n r.c)) := Turned.set (F := fun b => b = g) _ _ _ rfl
  have key : ∀ y, LiesIn w (fun b => b < w.heap.size ∧ ¬ (Value.slice (some ⟨g, 0, none⟩) n c).ownBlock = some b) y → LiesIn (w.setCell ⟨g, i, none⟩ (.slice r.A r.n r.c)) (fun b => b < (w.setCell ⟨g, i, none⟩ (.slice r.A r.n r.c)).heap.size ∧ ¬ (Value.slice (some ⟨g, 0, none⟩) n c).ownBlock = some b) y := fun y hy =>
    (hy.turned kT fun b hb e => hb.2 (by rw [e]; rfl)).mono fun b hb => ⟨Nat.lt_of_lt_of_le hb.1 kT.size, hb.2⟩
  refine ⟨h.1.stored r, fun y hy => ?_, h.2.2.setCell (h.1.rowLe g rfl) _⟩
  rcases List.mem_or_eq_of_mem_set hy with hy | rfl
  · exact key y (h.2.1 y hy)
  · exact key _ hr
end Lay
theorem Mat.take {w : World} {A : Option Addr} {n c k : Nat} {M : List (List Nat)} (h : Mat w ⟨A, n, c, M⟩) (hk : k ≤ n) : Mat w ⟨A, k, c, M.take k⟩ := by
  obtain ⟨rs, e1, rfl, e3⟩ := h
  refine ⟨rs.take k, ⟨by rw [List.length_take, e1.1]; exact Nat.min_eq_left hk, fun r hr => e1.2.1 r (List.mem_of_mem_take hr), fun hp => ?_⟩, by simp [rowsXs, List.map_take], Nat.le_trans hk e3⟩
  have hp2 : 0 < k := hp
  obtain ⟨b, off, e, hb, hc⟩ := e1.2.2 (by show 0 < n; omega)
  refine ⟨b, off, e, hb, fun i r hi => hc i r ?_⟩
  rw [List.getElem?_take] at hi
  split at hi
  · exact hi
  · cases hi
theorem Mat.drop {w : World} {A : Option Addr} {n c k : Nat} {M : List (List Nat)} (h : Mat w ⟨A, n, c, M⟩) : Mat w ⟨dropA A c k, n - k, c - k, M.drop k⟩ := by
  obtain ⟨rs, e1, rfl, e3⟩ := h
  have e3 : n ≤ c := e3
  exact ⟨rs.drop k, e1.drop e3, by simp [rowsXs, List.map_drop], by show n - k ≤ c - k; omega⟩
end Go.Proofs.YtgelalbmhllccaaGreat
/- Copies into rows made on the spot: stage 8's texts hold them (filled under the name of stage 7's text, which names them a second time). -/
/- The landed code of layer 7: what a basis is in memory; small functions; comparing. -/
namespace Go.Proofs.YtgelalbmhllccaaGreat
open Go.RowKit
set_option linter.unusedVariables false
set_option linter.unusedSimpArgs false
/-- A basis at block b: of g and s, its rows; what it holds lies in blocks of F. -/
def BasR (w : World) (F : Nat → Prop) (b g s : Nat) (B : List (List Nat)) : Prop :=
  (Bas g s B ∧ 1 ≤ g ∧ g ≤ 255 ∧ 1 ≤ s ∧ s ≤ 65535 ∧ ∀ k, F k → k < w.heap.size) ∧ F b ∧
    ∃ A n c ps, w.heap[b]? = some (.cells #[.int .i64 (g : Int), .int .i64 (s : Int), .slice A n c] 139 (0, 0)) ∧ StIn w F A n ps ∧ (∀ p ∈ ps, p.a.n = g ∧ p.b.n = s) ∧ ps.map PairV.xs = B
/-- What is read of it. -/
structure BasA (w : World) (F : Nat → Prop) (b g s : Nat) (B : List (List Nat)) (A : Option Addr) (n c : Nat) (ps : List PairV) : Prop where
  bas : Bas g s B
  g1 : 1 ≤ g
  g2 : g ≤ 255
  s1 : 1 ≤ s
  s2 : s ≤ 65535
  lt : ∀ k, F k → k < w.heap.size
  at_ : F b
  block : w.heap[b]? = some (.cells #[.int .i64 (g : Int), .int .i64 (s : Int), .slice A n c] 139 (0, 0))
  st : StIn w F A n ps
  size : ∀ p ∈ ps, p.a.n = g ∧ p.b.n = s
  xs : ps.map PairV.xs = B
section
variable {w w' : World} {F G : Nat → Prop} {b g s n c : Nat} {B : List (List Nat)} {A : Option Addr} {ps : List PairV}
theorem BasA.r (h : BasA w F b g s B A n c ps) : BasR w F b g s B := ⟨⟨h.bas, h.g1, h.g2, h.s1, h.s2, h.lt⟩, h.at_, A, n, c, ps, h.block, h.st, h.size, h.xs⟩
theorem BasR.open_ (h : BasR w F b g s B) : ∃ A n c ps, BasA w F b g s B A n c ps := by
  obtain ⟨⟨a1, a2, a3, a4, a5, a6⟩, a7, A, n, c, ps, a8, a9, a10, a11⟩ := h
  exact ⟨A, n, c, ps, a1, a2, a3, a4, a5, a6, a7, a8, a9, a10, a11⟩
theorem BasA.len (h : BasA w F b g s B A n c ps) : B.length = n := by rw [← h.xs, List.length_map, h.st.1]
theorem BasA.n_le (h : BasA w F b g s B A n c ps) : n ≤ g := by have := h.bas.length_le; rw [h.len] at this; exact this
theorem BasA.c0 (h : BasA w F b g s B A n c ps) : w.cell? ⟨b, 0, none⟩ = some (.int .i64 (g : Int)) := cell_of_row _ _ _ _ _ _ h.block
theorem BasA.c1 (h : BasA w F b g s B A n c ps) : w.cell? ⟨b, 1, none⟩ = some (.int .i64 (s : Int)) := cell_of_row _ _ _ _ _ _ h.block
theorem BasA.c2 (h : BasA w F b g s B A n c ps) : w.cell? ⟨b, 2, none⟩ = some (.slice A n c) := cell_of_row _ _ _ _ _ _ h.block
theorem BasA.turned (h : BasA w F b g s B A n c ps) (k : Turned G w w') (hd : ∀ b, F b → ¬ G b) : BasA w' F b g s B A n c ps :=
  ⟨h.bas, h.g1, h.g2, h.s1, h.s2, fun x hx => Nat.lt_of_lt_of_le (h.lt x hx) k.size, h.at_, (k.block b (h.lt b h.at_) (hd b h.at_)).trans h.block, h.st.turned k hd, h.size, h.xs⟩
theorem BasA.keep (h : BasA w F b g s B A n c ps) (k : Keep w w') : BasA w' F b g s B A n c ps := h.turned (Turned.of_keep (F := fun _ => False) k) fun _ _ e => e
theorem BasR.fine (h : BasR w F b g s B) : Bas g s B ∧ 1 ≤ g ∧ g ≤ 255 ∧ 1 ≤ s ∧ s ≤ 65535 ∧ ∀ k, F k → k < w.heap.size := h.1
theorem BasR.turned (h : BasR w F b g s B) (k : Turned G w w') (hd : ∀ b, F b → ¬ G b) : BasR w' F b g s B := by
  obtain ⟨A, n, c, ps, h⟩ := h.open_
  exact (h.turned k hd).r
theorem BasR.keep (h : BasR w F b g s B) (k : Keep w w') : BasR w' F b g s B := h.turned (Turned.of_keep (F := fun _ => False) k) fun _ _ e => e
end
set_option maxRecDepth 100000 in
theorem bnew_in (g s : Nat) (h1 : 1 ≤ g) (h2 : g ≤ 255) (h3 : 1 ≤ s) (h4 : s ≤ 65535) (w : World) :
    Calls Tryz.prog 34 #[.int .i64 (g : Int), .int .i64 (s : Int)] w fun e w' => ∃ b F, e = .returned (.tuple #[.pointer (some ⟨b, 0, none⟩), .int .i64 0]) ∧ BasR w' F b g s [] ∧ (∀ k, F k → w.heap.size ≤ k) ∧ Keep w w' := by
  have b1 : decide ((g : Int) < 1) = false := decide_eq_false (by omega)
  have b2 : decide ((255 : Int) < (g : Int)) = false := decide_eq_false (by omega)
  have b3 : decide ((s : Int) < 1) = false := decide_eq_false (by omega)
  have b4 : decide ((65535 : Int) < (s : Int)) = false := decide_eq_false (by omega)
  have H := Lib.hid (And.intro h1 (And.intro h2 (And.intro h3 h4)))
  clear h1 h2 h3 h4
  go_enter Tryz.func34, Tryz.ntmps34
  go_wp2_with fail
  go_ret2
  have hk : Keep w (w.alloc (.cells #[.int .i64 (g : Int), .int .i64 (s : Int), .slice none 0 0] 139)) := (Keep.refl w).alloc _ _
  refine ⟨w.heap.size, fun k => k = w.heap.size, rfl, ⟨⟨Bas.nil g s, H.out.1, H.out.2.1, H.out.2.2.1, H.out.2.2.2, fun k hk => ?_⟩, rfl, none, 0, 0, [], heap_alloc_new w _, StIn.nothing _ _ _, fun p hp => by simp at hp, rfl⟩, fun k e => by rw [e]; exact Nat.le_refl _, hk⟩
  subst hk
  simp
set_option maxRecDepth 100000 in
theorem bnew_out (g s : Int) (h : g < 1 ∨ 255 < g ∨ s < 1 ∨ 65535 < s) (w : World) :
    Calls Tryz.prog 34 #[.int .i64 g, .int .i64 s] w fun e w' => e = .returned (.tuple #[.pointer none, .int .i64 1]) ∧ Keep w w' := by
  have hb : (decide (g < 1) || decide (255 < g) || decide (s < 1) || decide (65535 < s)) = true := by
    simp only [Bool.or_eq_true, decide_eq_true_eq]
    omega
  clear h
  cases e1 : decide (g < 1) <;> cases e2 : decide (255 < g) <;> cases e3 : decide (s < 1) <;> cases e4 : decide (65535 < s) <;> rw [e1, e2, e3, e4] at hb
  case false.false.false.false => exact absurd hb (by decide)
  all_goals
    clear hb
    go_enter Tryz.func34, Tryz.ntmps34
    go_wp2_with fail
    go_ret2
    exact ⟨rfl, Keep.refl w⟩
set_option maxRecDepth 100000 in
theorem bmade_eq (b g : Nat) (w : World) (c0 : w.cell? ⟨b, 0, none⟩ = some (.int .i64 (g : Int))) (hg : 1 ≤ g) : Calls Tryz.prog 73 #[.pointer (some ⟨b, 0, none⟩)] w fun e w' => e = .returned (.bool true) ∧ w = w' := by
  have b1 : decide ((0 : Int) < (g : Int)) = true := decide_eq_true (by omega)
  have b2 : decide (0 < g) = true := decide_eq_true (by omega)
  clear hg
  go_enter Tryz.func73, Tryz.ntmps73
  go_wp2_with fail
  go_ret
  exact ⟨rfl, rfl⟩
section
variable {w : World} {F : Nat → Prop} {b g s : Nat} {B : List (List Nat)}
end
set_option maxRecDepth 100000 in
theorem bcoefs_any (p : PairV) (w : World) : Calls Tryz.prog 75 #[p.agg] w fun e w' => e = .returned (.slice p.a.A p.a.n p.a.c) ∧ Keep w w' := by
  obtain ⟨⟨A1, n1, c1, x1⟩, ⟨A2, n2, c2, x2⟩⟩ := p
  show Calls _ _ #[.agg #[.slice A1 n1 c1, .slice A2 n2 c2]] _ _
  go_enter Tryz.func75, Tryz.ntmps75
  go_wp2_with fail
  go_ret
  exact ⟨rfl, (Keep.refl w).alloc _ _⟩
set_option maxRecDepth 100000 in
theorem bpayload_any (p : PairV) (w : World) : Calls Tryz.prog 80 #[p.agg] w fun e w' => e = .returned (.slice p.b.A p.b.n p.b.c) ∧ Keep w w' := by
  obtain ⟨⟨A1, n1, c1, x1⟩, ⟨A2, n2, c2, x2⟩⟩ := p
  show Calls _ _ #[.agg #[.slice A1 n1 c1, .slice A2 n2 c2]] _ _
  go_enter Tryz.func80, Tryz.ntmps80
  go_wp2_with fail
  go_ret
  exact ⟨rfl, (Keep.refl w).alloc _ _⟩
end Go.Proofs.YtgelalbmhllccaaGreat
/- The landed code of layer 7: two lists of rows compared. -/
namespace Go.Proofs.YtgelalbmhllccaaGreat
open Go.RowKit
set_option linter.unusedVariables false
set_option linter.unusedSimpArgs false
theorem StIn.lies {w : World} {F : Nat → Prop} {A : Option Addr} {n : Nat} {ps : List PairV} (h : StIn w F A n ps) (hF : ∀ b, F b → b < w.heap.size) {k : Nat} {p : PairV} (hp : ps[k]? = some p) : Bytes w w.heap.size p.a.A p.a.n p.a.xs ∧ Bytes w w.heap.size p.b.A p.b.n p.b.xs := by
  have := h.2.1 p (List.mem_of_getElem? hp)
  exact ⟨this.1.bytes hF, this.2.bytes hF⟩
end Go.Proofs.YtgelalbmhllccaaGreat
/- Rows that are combinations of symbols, coefficients and payload alike: what a basis makes of them. -/
namespace Go.Proofs.YtgelalbmhllccaaGreat
open Lin
/-- What coefficients make of the symbols. -/
def payV (g s : Nat) (M : List (List Nat)) (c : List Nat) : List Nat := vComb s M c g
/-- A row that goes with the symbols. -/
def rowV (g s : Nat) (M : List (List Nat)) (c : List Nat) : List Nat := c ++ payV g s M c
section
variable {g s : Nat} {M : List (List Nat)} {c : List Nat}
end
end Go.Proofs.YtgelalbmhllccaaGreat
/- One basis of one span; rows told by what they have at the leads; a basis as a reduced matrix. -/
namespace Go.Proofs.YtgelalbmhllccaaGreat
open Lin
set_option linter.unusedVariables false
section
variable {g s : Nat} {M B C : List (List Nat)}
theorem vec_vComb {nc k : Nat} {N : List (List Nat)} {c : List Nat} (hN : Sz k nc N) (hc : AllB c) : vec (vComb nc N c k) = comb k (fn N) (vec c) := by
  rw [show vComb nc N c k = rowN c N k nc from tab_congr fun j _ => sumX_congr fun i hi => mul_comm' _ _ ((hN.at_ hi).2.getD j) (hc.getD i), vec_rowN hc hN]
theorem vComb_all {nc k : Nat} {N : List (List Nat)} {c : List Nat} (hN : Sz k nc N) (hc : AllB c) : AllB (vComb nc N c k) := by
  rw [show vComb nc N c k = rowN c N k nc from tab_congr fun j _ => sumX_congr fun i hi => mul_comm' _ _ ((hN.at_ hi).2.getD j) (hc.getD i)]
  exact rowN_all hc
theorem Bas.sz (h : Bas g s B) : Sz B.length (g + s) B := ⟨rfl, h.ok⟩
end
end Go.Proofs.YtgelalbmhllccaaGreat
/- One side of the rows of a basis: what is left of a row, and where a new one stands. -/
namespace Go.Proofs.YtgelalbmhllccaaGreat
open Lin
set_option linter.unusedVariables false
theorem getD_take {l : List Nat} {g i : Nat} (h : i < g) : (l.take g).getD i 0 = l.getD i 0 := by
  rw [List.getD_eq_getElem?_getD, List.getD_eq_getElem?_getD, List.getElem?_take, if_pos h]
theorem getD_drop (l : List Nat) (g i : Nat) : (l.drop g).getD i 0 = l.getD (g + i) 0 := by
  rw [List.getD_eq_getElem?_getD, List.getD_eq_getElem?_getD, List.getElem?_drop]
theorem getD_map_side (f : List Nat → List Nat) (h0 : f [] = []) (B : List (List Nat)) (i : Nat) : (B.map f).getD i [] = f (B.getD i []) := by
  rw [List.getD_eq_getElem?_getD, List.getD_eq_getElem?_getD, List.getElem?_map]
  cases B[i]? with
  | none => exact h0.symm
  | some x => rfl
theorem tab_take (g s : Nat) (f : Nat → Nat) : (tab (g + s) f).take g = tab g f := list_ext (by rw [List.length_take, tab_length, tab_length]; omega) fun i hi => by
  rw [List.length_take, tab_length] at hi
  rw [getD_take (by omega), tab_getD, tab_getD, if_pos (by omega), if_pos (by omega)]
theorem tab_drop (g s : Nat) (f : Nat → Nat) : (tab (g + s) f).drop g = tab s fun j => f (g + j) := list_ext (by rw [List.length_drop, tab_length, tab_length]; omega) fun i hi => by
  rw [List.length_drop, tab_length] at hi
  rw [getD_drop, tab_getD, tab_getD, if_pos (by omega), if_pos (by omega)]
/-- A row, and of k rows each as often as its number says, added. -/
def plusN (N : Nat) (x : List Nat) (rows : List (List Nat)) (D : List Nat) (k : Nat) : List Nat := tab N fun j => x.getD j 0 ^^^ vCombAt rows D k j
theorem plusN_len (N : Nat) (x : List Nat) (rows : List (List Nat)) (D : List Nat) (k : Nat) : (plusN N x rows D k).length = N := tab_length _ _
theorem combAt_take (B : List (List Nat)) (D : List Nat) (k : Nat) {g j : Nat} (h : j < g) : vCombAt (B.map (List.take g)) D k j = vCombAt B D k j := sumX_congr fun i _ => by
  rw [getD_map_side (List.take g) (by simp), getD_take h]
theorem combAt_drop (B : List (List Nat)) (D : List Nat) (k g j : Nat) : vCombAt (B.map (List.drop g)) D k j = vCombAt B D k (g + j) := sumX_congr fun i _ => by
  rw [getD_map_side (List.drop g) (by simp), getD_drop]
theorem plusN_take (g s : Nat) (x : List Nat) (B : List (List Nat)) (D : List Nat) (k : Nat) : (plusN (g + s) x B D k).take g = plusN g (x.take g) (B.map (List.take g)) D k := by
  rw [plusN, tab_take]
  exact tab_congr fun j hj => by rw [getD_take hj, combAt_take B D k hj]
theorem plusN_drop (g s : Nat) (x : List Nat) (B : List (List Nat)) (D : List Nat) (k : Nat) : (plusN (g + s) x B D k).drop g = plusN s (x.drop g) (B.map (List.drop g)) D k := by
  rw [plusN, tab_drop]
  exact tab_congr fun j _ => by rw [getD_drop, combAt_drop]
theorem vAddS_take (g s : Nat) (m u : List Nat) (c : Nat) : (vAddS (g + s) m u c).take g = vAddS g (m.take g) (u.take g) c := by
  rw [vAddS, tab_take]; exact tab_congr fun j hj => by rw [getD_take hj, getD_take hj]
theorem vAddS_drop (g s : Nat) (m u : List Nat) (c : Nat) : (vAddS (g + s) m u c).drop g = vAddS s (m.drop g) (u.drop g) c := by
  rw [vAddS, tab_drop]; exact tab_congr fun j _ => by rw [getD_drop, getD_drop]
theorem vScale_take (g s : Nat) (m : List Nat) (c : Nat) : (vScale (g + s) m c).take g = vScale g (m.take g) c := by
  rw [vScale, tab_take]; exact tab_congr fun j hj => by rw [getD_take hj]
theorem vScale_drop (g s : Nat) (m : List Nat) (c : Nat) : (vScale (g + s) m c).drop g = vScale s (m.drop g) c := by
  rw [vScale, tab_drop]; exact tab_congr fun j _ => by rw [getD_drop]
theorem vAddS_none {n : Nat} {m : List Nat} (u : List Nat) (h : m.length = n) (hu : AllB u) : vAddS n m u 0 = m := by
  subst h
  refine Eq.trans (tab_congr fun j _ => ?_) (tab_self m)
  rw [mul_comm' _ 0 (hu.getD j) (by decide), mul_zero_left, Nat.xor_zero]
section
variable {g s : Nat} {B : List (List Nat)} {row : List Nat}
/-- What is left of a row. -/
theorem leftB_eq {l : Nat → Nat} (h : Bas g s B) (hr : Red B.length (fn B) l) (hl : row.length = g + s) (ha : AllB row) : leftB (g + s) B row = plusN (g + s) row B (tab B.length fun i => row.getD (l i) 0) B.length := by
  have hD : AllB (tab B.length fun i => row.getD (l i) 0) := fun x hx => by
    obtain ⟨i, _, rfl⟩ := List.mem_map.1 hx
    exact ha.getD _
  have hv := vec_vComb h.sz hD
  have hva := vComb_all h.sz hD
  have hpa : AllB (plusN (g + s) row B (tab B.length fun i => row.getD (l i) 0) B.length) := fun x hx => by
    obtain ⟨j, hj, rfl⟩ := List.mem_map.1 hx
    have := hva.getD j
    rw [vComb, tab_getD, if_pos (List.mem_range.1 hj)] at this
    exact xor_lt (ha.getD _) this
  refine vec_inj (by rw [left_len hl, plusN_len]) (left_all h.ok ha) hpa ?_
  rw [left_vec h.ok hr hl ha]
  funext j
  apply By.ext
  rw [vec_v hpa, add_v, vec_v ha, plusN, tab_getD]
  have e : (comb B.length (fn B) (fun i => vec row (l i)) j).v = (vComb (g + s) B (tab B.length fun i => row.getD (l i) 0) B.length).getD j 0 := by
    rw [← vec_v hva, hv]
    congr 1
    exact sm_congr fun i hi => by
      show vec row (l i) * _ = vec (tab B.length fun i => row.getD (l i) 0) i * _
      congr 1
      show byte _ = byte _
      rw [tab_getD, if_pos hi]
  rw [e, vComb, tab_getD]
  by_cases hj : j < g + s
  · rw [if_pos hj, if_pos hj]
  · rw [if_neg hj, if_neg hj, List.getD_eq_getElem?_getD, List.getElem?_eq_none (by omega)]; rfl
theorem lead_col {l : Nat → Nat} (h : Bas g s B) (hr : Red B.length (fn B) l) {i : Nat} (hi : i < B.length) (hlg : l i < g) : vLead g ((B.getD i []).take g) = (l i : Int) := by
  have hw := h.ok.at_ hi
  have h1 : (B.getD i []).getD (l i) 0 = 1 := by
    have := congrArg By.v (hr.one i hi)
    rwa [show (fn B i (l i)).v = (B.getD i []).getD (l i) 0 from vec_v hw.2 _] at this
  have h0 : ∀ j, j < l i → (B.getD i []).getD j 0 = 0 := fun j hj => by
    have := congrArg By.v (hr.low i j hi hj)
    rwa [show (fn B i j).v = (B.getD i []).getD j 0 from vec_v hw.2 _] at this
  exact vLead_at hlg (by rw [getD_take hlg, h1]; decide) fun j hj => by rw [getD_take (by omega), h0 j hj]
/-- Where a new row stands. -/
theorem insB_at {L q : Nat} (h : Bas g s B) (hl : row.length = g + s) (ha : AllB row) (hL : vLead g (leftB (g + s) B row) = (L : Int)) (hq : q ≤ B.length)
    (hlo : ∀ i, i < q → ∃ j, j < L ∧ (B.getD i []).getD j 0 ≠ 0) (hhi : q < B.length → ∀ j, j < L → (B.getD q []).getD j 0 = 0) :
    insB g s B row = (clearedL (g + s) B (vScale (g + s) (leftB (g + s) B row) (invN ((leftB (g + s) B row).getD L 0))) L).take q ++ [vScale (g + s) (leftB (g + s) B row) (invN ((leftB (g + s) B row).getD L 0))] ++ (clearedL (g + s) B (vScale (g + s) (leftB (g + s) B row) (invN ((leftB (g + s) B row).getD L 0))) L).drop q := by
  have hneg : ¬ vLead g (leftB (g + s) B row) < 0 := by rw [hL]; omega
  have hL2 : vLead (g + s) (leftB (g + s) B row) = (L : Int) := (vLead_less (by omega) hneg).trans hL
  obtain ⟨l, hr, hlg⟩ := h.leads
  have hLt : L < g ∧ (leftB (g + s) B row).getD L 0 ≠ 0 := by
    obtain ⟨L', h1, h2⟩ := vLead_some hneg
    rw [hL] at h2
    obtain rfl : L = L' := by omega
    obtain ⟨a, b, _⟩ := (vLeadTo_some _ g L).1 h1
    exact ⟨a, b⟩
  have cell : ∀ i, i < B.length → ∀ j, (fn B i j).v = (B.getD i []).getD j 0 := fun i hi j => vec_v (h.ok.at_ hi).2 _
  have lo2 : ∀ i, i < q → ¬ (L : Int) < vLead (g + s) (B.getD i []) := fun i hi => by
    rw [h.lead_at hr (show i < B.length by omega)]
    obtain ⟨j, hj, h0⟩ := hlo i hi
    intro hlt
    refine h0 ?_
    rw [← cell i (by omega), hr.low i j (by omega) (by omega)]; rfl
  have hi2 : q < B.length → (L : Int) < vLead (g + s) (B.getD q []) := fun hq2 => by
    rw [h.lead_at hr hq2]
    rcases Nat.lt_trichotomy L (l q) with e | e | e
    · omega
    · exfalso
      have := left_nought h.ok hr hl ha hq2
      rw [← e] at this
      exact hLt.2 ((vec_zero_iff (left_all h.ok ha) L).1 this)
    · exfalso
      have h1 := hhi hq2 (l q) e
      rw [← cell q hq2, hr.one q hq2] at h1
      exact absurd h1 (by decide)
  have hn : ¬ inB g s B row := hneg
  rw [insB_new hn]
  obtain ⟨v, hv⟩ : ∃ v, leftB (g + s) B row = v := ⟨_, rfl⟩
  have hv' : clearTo (g + s) B row B.length = v := hv
  rw [hv] at hL2 hLt ⊢
  have hcl : ∀ u : List Nat, (clearedL (g + s) B u L).length = B.length := fun u => by simp [clearedL]
  rw [insertN]
  simp only [hv', hL2, Int.toNat_natCast]
  rw [if_neg (show ¬ (L : Int) < 0 by omega)]
  have hlay := layTo_eq (u := vScale (g + s) v (invN (v.getD L 0))) hq lo2 hi2 B.length (Nat.le_refl _)
  rw [hlay]
  by_cases hc : B.length ≤ q
  · obtain rfl : q = B.length := by omega
    rw [if_pos (Nat.le_refl _)]
    simp only [if_neg (show ¬ (false = true) by decide)]
    rw [List.drop_of_length_le (by rw [hcl]; omega), List.append_nil]
  · rw [if_neg hc]
    simp only [if_pos]
    rw [List.take_of_length_le (l := clearedL (g + s) B _ L) (i := B.length) (by rw [hcl]; omega)]
end
end Go.Proofs.YtgelalbmhllccaaGreat
/- The landed code of layer 7: a row and rows, each as often as its number says, added (one side of them). -/
namespace Go.Proofs.YtgelalbmhllccaaGreat
open Go.RowKit
set_option linter.unusedVariables false
set_option linter.unusedSimpArgs false
theorem OwnRows.litN (w : World) (t : TypeId) (n : Nat) (rs : List RowV) (cs : Array Value) (hc : cs = (rs.map RowV.val).toArray) (hl : rs.length = n) (hn : n ≤ 1000000) : OwnRows (w.alloc (.cells cs t)) w.heap.size t (some ⟨w.heap.size, 0, none⟩) n n rs := by
  subst hc
  have h := World.ownsRow_lit (w := w) (base := w.heap.size) (e := t) (size := 1) (rs.map RowV.val).toArray n (Nat.le_refl _) (by unfold maxLen; omega) (by simp [hl])
  simpa [OwnRows] using h
theorem OwnRows.lowerB {w : World} {base base' n c : Nat} {e : TypeId} {A : Option Addr} {rs : List RowV} (h : OwnRows w base e A n c rs) (hb : base' ≤ base) : OwnRows w base' e A n c rs := by
  refine ⟨h.1, ?_⟩
  rcases h.2 with h1 | ⟨g, cap, cur, hv, hg, r⟩
  · exact Or.inl h1
  · exact Or.inr ⟨g, cap, cur, hv, Nat.le_trans hb hg, r⟩
theorem OwnRows.grownB {w w' : World} {base n c : Nat} {e : TypeId} {A : Option Addr} {rs : List RowV} {row : Option Nat} (h : OwnRows w base e A n c rs) (hg : w.grownBy w' row) (hn : (Value.slice A n c).ownBlock = none ∨ (Value.slice A n c).ownBlock ≠ row) : OwnRows w' base e A n c rs := h.kept hg hn
theorem blocks_apart2 {w : World} {base base' n n' c c' : Nat} {e e' : TypeId} {A A' : Option Addr} {xs : List Nat} {rs : List RowV} (h' : OwnRows w base' e' A' n' c' rs) (h : Own w base e A n c xs) (he : e ≠ e') :
    (Value.slice A' n' c').ownBlock = none ∨ (Value.slice A' n' c').ownBlock ≠ (Value.slice A n c).ownBlock := by
  rcases blocks_apart h h' he with z | z
  · cases hb : (Value.slice A' n' c').ownBlock with
    | none => exact Or.inl rfl
    | some g => exact Or.inr (by rw [z]; simp)
  · exact Or.inr fun e => z e.symm
theorem combAt_snoc {R : List (List Nat)} {cs : List Nat} {m : Nat} (h1 : R.length = m) (h2 : cs.length = m) (x : List Nat) (c j : Nat) : vCombAt (R ++ [x]) (cs ++ [c]) (m + 1) j = vCombAt R cs m j ^^^ mulN (x.getD j 0) c := by
  rw [vCombAt, sumX]
  have e1 : (R ++ [x]).getD m [] = x := by rw [List.getD_eq_getElem?_getD, List.getElem?_append_right (by omega), h1, Nat.sub_self]; rfl
  have e2 : (cs ++ [c]).getD m 0 = c := by rw [List.getD_eq_getElem?_getD, List.getElem?_append_right (by omega), h2, Nat.sub_self]; rfl
  rw [e1, e2]
  congr 1
  exact sumX_congr fun i hi => by
    have e3 : (R ++ [x]).getD i [] = R.getD i [] := by rw [List.getD_eq_getElem?_getD, List.getElem?_append_left (by omega), ← List.getD_eq_getElem?_getD]
    have e4 : (cs ++ [c]).getD i 0 = cs.getD i 0 := by rw [List.getD_eq_getElem?_getD, List.getElem?_append_left (by omega), ← List.getD_eq_getElem?_getD]
    rw [e3, e4]
/-- What is laid for the sum. -/
structure PlusI (w wr : World) (N k m : Nat) (xr : List Nat) (R : List (List Nat)) (D : List Nat) (A1 : Option Addr) (c1 : Nat) (A2 : Option Addr) (c2 : Nat) (rs : List RowV) (cs : List Nat) : Prop where
  own1 : OwnRows wr w.heap.size 43 A1 m c1 rs
  own2 : Own wr w.heap.size 5 A2 m c2 cs
  rows : ∀ r ∈ rs, Bytes w w.heap.size r.A N r.xs ∧ r.n = N ∧ N ≤ r.c
  pos : 0 < m
  le : m ≤ k + 1
  sum : ∀ j, vCombAt (rowsOf rs) cs m j = xr.getD j 0 ^^^ vCombAt R D k j
  keep : Keep w wr
section
variable {w wr w' : World} {N k m : Nat} {xr : List Nat} {R : List (List Nat)} {D : List Nat} {A1 : Option Addr} {c1 : Nat} {A2 : Option Addr} {c2 : Nat} {rs : List RowV} {cs : List Nat}
theorem PlusI.later (h : PlusI w wr N k m xr R D A1 c1 A2 c2 rs cs) (kp : Keep wr w') : PlusI w w' N k m xr R D A1 c1 A2 c2 rs cs := ⟨h.own1.keep kp, h.own2.keep kp, h.rows, h.pos, h.le, h.sum, h.keep.trans kp⟩
theorem PlusI.skip (h : PlusI w wr N k m xr R D A1 c1 A2 c2 rs cs) (hd : D.getD k 0 = 0) : PlusI w wr N (k + 1) m xr R D A1 c1 A2 c2 rs cs :=
  ⟨h.own1, h.own2, h.rows, h.pos, by have := h.le; omega, fun j => by rw [h.sum j, vCombAt, vCombAt, sumX, hd, mul_zero_right, Nat.xor_zero], h.keep⟩
theorem PlusI.sum_next (h : PlusI w wr N k m xr R D A1 c1 A2 c2 rs cs) {r : RowV} (hr : R.getD k [] = r.xs) (j : Nat) : vCombAt (rowsOf (rs ++ [r])) (cs ++ [D.getD k 0]) (m + 1) j = xr.getD j 0 ^^^ vCombAt R D (k + 1) j := by
  have e : rowsOf (rs ++ [r]) = rowsOf rs ++ [r.xs] := by simp [rowsOf]
  rw [e, combAt_snoc (by rw [rowsOf, List.length_map, h.own1.length]) h.own2.length, h.sum j, ← hr, Nat.xor_assoc]; rfl
theorem PlusI.comb (h : PlusI w wr N k m xr R D A1 c1 A2 c2 rs cs) : combOf N rs cs = plusN N xr R D k ∧ combErr N rs = 0 := by
  have hf : ∀ r ∈ rs, r.n = N := fun r hr => (h.rows r hr).2.1
  rw [combOf, combErr, if_pos hf, if_pos hf]
  refine ⟨?_, rfl⟩
  rw [h.own1.length]
  exact tab_congr fun j _ => h.sum j
theorem PlusI.rowsAt (h : PlusI w wr N k m xr R D A1 c1 A2 c2 rs cs) (hN : N ≤ 65535) : RowsAt wr wr.heap.size A1 m rs := h.own1.rows fun r hr => by
  obtain ⟨a, b, c⟩ := h.rows r hr
  rw [b]
  exact ⟨(a.below (Below.mono h.keep (Nat.le_refl _))).mono h.keep.size, by omega, c⟩
theorem PlusI.head (h : PlusI w wr N k m xr R D A1 c1 A2 c2 rs cs) : ∃ r0, rs[0]? = some r0 ∧ r0.n = N := by
  have hl := h.own1.length
  have hp := h.pos
  exact ⟨_, List.getElem?_eq_getElem (by omega), (h.rows _ (List.getElem_mem (by omega))).2.1⟩
end
set_option maxRecDepth 100000 in
set_option maxHeartbeats 4000000 in
theorem bplus_any (f : Nat) (sel : PairV → RowV) (eg : ∀ args w, (callFunc f args).run Tryz.prog w = .ok (.enter f args) w) (b n c N cD cr : Nat) (A AD Ar : Option Addr) (xr : List Nat) (r : PairV) (F : Nat → Prop) (ps : List PairV) (D : List Nat) (w : World)
    (hfr : ∀ w1, Calls Tryz.prog f #[r.agg] w1 fun e w' => e = .returned (.slice Ar N cr) ∧ Keep w1 w')
    (hfp : ∀ p ∈ ps, ∀ w1, Calls Tryz.prog f #[p.agg] w1 fun e w' => e = .returned (.slice (sel p).A N (sel p).c) ∧ Keep w1 w')
    (hb : b < w.heap.size) (c2 : w.cell? ⟨b, 2, none⟩ = some (.slice A n c)) (hst : StIn w F A n ps) (hF : ∀ b, F b → b < w.heap.size) (hr : Bytes w w.heap.size Ar N xr) (hrc : N ≤ cr)
    (hrow : ∀ p ∈ ps, Bytes w w.heap.size (sel p).A N (sel p).xs ∧ N ≤ (sel p).c) (hD : Bytes w w.heap.size AD n D) (hn : n ≤ 255) (hN : N ≤ 65535) :
    Calls Tryz.prog 120 #[.pointer (some ⟨b, 0, none⟩), r.agg, .slice AD n cD, .func (.func f) #[] #[]] w fun e w' => ∃ A' c', e = .returned (.slice A' N c') ∧ Own w' w.heap.size 5 A' N c' (plusN N xr (ps.map fun p => (sel p).xs) D n) ∧ Keep w w' := by
  obtain ⟨⟨A1, n1, c1, x1⟩, ⟨A2, n2, c2', x2⟩⟩ := r
  have HFR : Hid (∀ w1, Calls Tryz.prog f #[.agg #[.slice A1 n1 c1, .slice A2 n2 c2']] w1 fun e w' => e = .returned (.slice Ar N cr) ∧ Keep w1 w') := hfr
  show Calls _ _ #[_, .agg #[.slice A1 n1 c1, .slice A2 n2 c2'], _, _] _ _
  have HFP := Lib.hid hfp
  have HST := Lib.hid hst
  have HFF := Lib.hid hF
  have HRB := Lib.hid hr
  have HROW := Lib.hid hrow
  have HD := Lib.hid hD
  have HC2 := Lib.hid c2
  have hall := hr.all
  have HALL := Lib.hid hall
  clear hfr hfp hst hF hr hrow hD c2 hall
  go_enter Tryz.func120, Tryz.ntmps120
  go_wp2_with fail
  refine (HFR.out _).mono ?_
  rintro e w1 ⟨rfl, k1⟩
  have K1 : Hid (Keep w w1) := ((Keep.refl w).alloc _ _).trans k1
  clear k1
  go_wp2_with fail
  have hlit : PlusI w ((w1.alloc (.cells #[.slice Ar N cr] 43)).alloc (.cells #[.int .u8 1] 5)) N 0 1 xr (ps.map fun p => (sel p).xs) D (some ⟨w1.heap.size, 0, none⟩) 1 (some ⟨w1.heap.size + 1, 0, none⟩) 1 [⟨Ar, N, cr, xr⟩] [1] := by
    have o1 := (OwnRows.litN w1 43 1 [⟨Ar, N, cr, xr⟩] #[.slice Ar N cr] rfl rfl (by decide)).lowerB K1.out.size
    have o2 := (Own.lit (w1.alloc (.cells #[.slice Ar N cr] 43)) 5 1 [1] #[.int .u8 1] rfl rfl (by decide) (by decide)).lower (base' := w.heap.size) (by have := K1.out.size; simp; omega)
    rw [show (w1.alloc (.cells #[.slice Ar N cr] 43)).heap.size = w1.heap.size + 1 by simp] at o2
    refine ⟨o1.alloc _, o2, fun r hr => ?_, by decide, by decide, fun j => ?_, (K1.out.alloc _ _).alloc _ _⟩
    · obtain rfl := List.mem_singleton.1 hr
      exact ⟨HRB.out, rfl, hrc⟩
    · show 0 ^^^ mulN (xr.getD j 0) 1 = _ ^^^ 0
      rw [mul_one_right _ (HALL.out.getD j), Nat.zero_xor, Nat.xor_zero]
  have HLIT := Lib.hid hlit
  clear hlit
  go_loopw [9, 10, 22] (fun u v i wr => ∃ (k m d1 d2 : Nat) (V1 V2 : Option Addr) (rs : List RowV) (cs : List Nat), k ≤ n ∧ i = .int .i64 k ∧ u = .slice V1 m d1 ∧ v = .slice V2 m d2 ∧ PlusI w wr N k m xr (ps.map fun p => (sel p).xs) D V1 d1 V2 d2 rs cs) (fun _ _ i _ => n - (intOf i).toNat)
  case atStart => exact ⟨0, 1, 1, 1, _, _, _, _, by omega, rfl, rfl, rfl, HLIT.out⟩
  case round =>
    obtain ⟨k, m, d1, d2, V1, V2, rs, cs, hk, rfl, rfl, rfl, hI⟩ := hrel
    have HI := Lib.hid hI
    have KI := Lib.hid hI.keep
    have hm := hI.le
    clear hI HLIT K1
    by_cases hlt : k < n
    · obtain ⟨bD, oD, rfl, hbD, hcD⟩ := (HD.out.keep (Nat.le_refl _) KI.out).at_ hlt
      have e1 : (0 : Int) ≤ (k : Int) := Int.natCast_nonneg _
      have e2 : (k : Int) < (n : Int) := by omega
      have hx := HD.out.all.getD k
      by_cases hz : D.getD k 0 = 0
      · have HZ := Lib.hid hz
        rw [hz] at hcD
        clear hz hx
        go_wp2_with fail
        go_roundw
        case rel => exact ⟨k + 1, m, d1, d2, _, _, _, _, by omega, by go_num, rfl, rfl, HI.out.skip HZ.out⟩
        case measure => simp [intOf]; omega
      · obtain ⟨y, hy⟩ : ∃ y, D.getD k 0 = y := ⟨_, rfl⟩
        rw [hy] at hcD hz hx
        have HY := Lib.hid hy
        have b1 : ((y : Int) != 0) = true := by rw [bne_iff_ne]; omega
        obtain ⟨b2, o2, p, rfl, hb2, hp, hc1, hc2, _⟩ := (HST.out.keep KI.out).at_ hlt
        have HP := Lib.hid hp
        have hc3 := (KI.out.cell (p := ⟨b, 2, none⟩) hb).trans HC2.out
        have HX := Lib.hid hx
        clear hy hz hp hb2 hx
        go_wp2_with fail
        refine (HFP.out p (List.mem_of_getElem? HP.out) _).mono ?_
        rintro e w2 ⟨rfl, k2⟩
        have K2 := Lib.hid k2
        have HI2 := Lib.hid (HI.out.later k2)
        clear k2 HI hc1 hc2 hcD hc3
        go_wp2_with (at_builtin; refine wpList_append_row rfl _ _ 40 rfl ⟨(sel p).A, N, (sel p).c, (sel p).xs⟩ Tryz.underlying40 infoRow rfl (HI2.out.own1.alloc _) rfl (by rw [World.cell?_alloc_at _ _ _ _ (by simp)]; rfl) (by omega) (by have := HI2.out.keep.size; simp; omega) ?_)
        intro A4 c4 w4 hl4 hgr4 _
        have HK4 := Lib.hid (Keep.grown (Keep.alloc HI2.out.keep _ _) hgr4 (HI2.out.own1.rowLe))
        have HD4 := Lib.hid ((HI2.out.own2.alloc (.cells #[.slice (sel p).A N (sel p).c] 43)).grown hgr4 (blocks_apart (HI2.out.own2.alloc (.cells #[.slice (sel p).A N (sel p).c] 43)) (HI2.out.own1.alloc (.cells #[.slice (sel p).A N (sel p).c] 43)) (by decide)))
        have HL4 := Lib.hid hl4
        clear hl4 hgr4
        go_wp2_with (at_builtin; refine wpList_append_bytes rfl _ _ 43 rfl Tryz.underlying43 info5 rfl (HD4.out.alloc _) rfl (Bytes.one w4 y HX.out 5) (by omega) (by have := HK4.out.size; simp; omega) ?_)
        intro A6 c6 w6 hd6 hgr6 _
        have HK6 := Lib.hid (Keep.grown (Keep.alloc HK4.out _ _) hgr6 (HD4.out.rowLe))
        have HL6 := Lib.hid ((HL4.out.alloc (.cells #[.int .u8 (y : Int)] 5)).grownB hgr6 (blocks_apart2 (HL4.out.alloc (.cells #[.int .u8 (y : Int)] 5)) (HD4.out.alloc (.cells #[.int .u8 (y : Int)] 5)) (by decide)))
        have HI6 : Hid (PlusI w w6 N (k + 1) (m + 1) xr (ps.map fun p => (sel p).xs) D A4 c4 A6 c6 (rs ++ [⟨(sel p).A, N, (sel p).c, (sel p).xs⟩]) (cs ++ [y])) := by
          refine ⟨HL6.out, hd6, fun r hr => ?_, by omega, by omega, fun j => ?_, HK6.out⟩
          · rcases List.mem_append.1 hr with h | h
            · exact HI2.out.rows r h
            · obtain rfl := List.mem_singleton.1 h
              have := HROW.out p (List.mem_of_getElem? HP.out)
              exact ⟨this.1, rfl, this.2⟩
          · rw [← HY.out]
            refine HI2.out.sum_next ?_ j
            rw [List.getD_eq_getElem?_getD, List.getElem?_map, HP.out]; rfl
        clear hd6 hgr6 HL6 HK6 HD4 HL4 HK4
        go_wp2_with fail
        go_roundw
        case rel => exact ⟨k + 1, m + 1, c4, c6, A4, A6, _, _, by omega, by go_num, rfl, rfl, HI6.out⟩
        case measure => simp [intOf]; omega
    · obtain rfl : k = n := by omega
      obtain ⟨r0, hr0, hrn⟩ := HI.out.head
      have HC := Lib.hid HI.out.comb
      have hvc := vcomb_any _ _ m d1 d2 V1 V2 rs cs wr (HI.out.rowsAt hN) HI.out.own2.bytes (Nat.le_refl _) (Nat.le_refl _) (by have := HI.out.pos; omega) (by omega) r0 hr0
      rw [hrn, HC.out.1, HC.out.2] at hvc
      have HV := Lib.hid hvc
      clear hvc hr0 hrn
      go_wp2_with fail
      refine HV.out.mono ?_
      rintro e w3 ⟨A3, n3, c3, rfl, o3, k3⟩
      obtain rfl : n3 = N := o3.length.symm.trans (plusN_len _ _ _ _ _)
      have O3 := Lib.hid o3
      have K3 := Lib.hid k3
      clear o3 k3
      go_wp2_with fail
      go_ret
      exact ⟨A3, c3, rfl, O3.out.lower KI.out.size, KI.out.trans K3.out⟩
end Go.Proofs.YtgelalbmhllccaaGreat
