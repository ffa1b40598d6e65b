/- What the landed calls of layer 6 lay in new memory. -/
import Derived.Test.YtcjjhblgejkkeaaGreatMgen
import Derived.Test.YtcjjhblgejkkeaaGreatRowsMk
import Derived.Test.YtcjjhblgejkkeaaGreatVA
import Derived.Test.YtcjjhblgejkkeaaGreatEqual
import Derived.StillTailTactics
import Derived.Test.YtcjjhblgejkkeaaGreatMp
import Derived.Test.YtcjjhblgejkkeaaGreatFI
import Derived.Deep.LoopGhost
import Derived.WalkMore
import Derived.Deep.DeepCutAuto
import Derived.Deep.CutBlock
import Derived.Test.YtcjjhblgejkkeaaGreatRowsApp
import Derived.Test.YtcjjhblgejkkeaaGreatLibc
namespace Go.Proofs.YtcjjhblgejkkeaaGreat
open Go.RowKit
set_option linter.unusedVariables false
/-- Rows in new memory, each a slice of its own: what the code tells. -/
def OwnedRows (w w' : World) (A : Option Addr) (n c : Nat) (M : List (List Nat)) (rs : List RowV) : Prop :=
  OwnRows w' w.heap.size 32 A n c rs ∧ (∀ r ∈ rs, Own w' w.heap.size 5 r.A r.n r.c r.xs) ∧ rowsXs rs = M ∧ Keep w w'
def NewOwned (w : World) (M : List (List Nat)) (er : Int) (e : Ending) (w' : World) : Prop :=
  ∃ A n c, e = .returned (.tuple #[.slice A n c, .int .i64 er]) ∧ ∃ rs, OwnedRows w w' A n c M rs
theorem OwnedRows.rowsIn {w w' : World} {A : Option Addr} {n c : Nat} {M : List (List Nat)} {rs : List RowV} (h : OwnedRows w w' A n c M rs) : RowsIn w' (fun b => w.heap.size ≤ b ∧ b < w'.heap.size) A n rs :=
  RowsIn.of_own h.1 (fun r hr => (h.2.1 r hr).lies.mono fun b hb => (h.2.1 r hr).1.lt b hb) (fun b hb => h.1.lt b hb)
theorem NewOwned.nothing {w w' : World} (k : Keep w w') (er : Int) : NewOwned w [] er (.returned (.tuple #[.slice none 0 0, .int .i64 er])) w' := ⟨none, 0, 0, rfl, [], OwnRows.none_ _ _ _, fun r hr => by simp at hr, rfl, k⟩
/-- Rows being filled in: those not yet laid are none. -/
structure Fill (W w : World) (g n : Nat) (rs : List RowV) : Prop where
  own : OwnRows w W.heap.size 32 (some ⟨g, 0, none⟩) n n rs
  rows : ∀ r ∈ rs, Own w W.heap.size 5 r.A r.n r.c r.xs
  keep : Keep W w
namespace Fill
variable {W w w' : World} {g n : Nat} {rs : List RowV}
theorem made {w1 : World} (k : Keep W w1) (hn : n ≤ 1000000) (hg : w1.heap.size = g) : Fill W (w1.alloc (.cells (madeCells #[.slice none 0 0] n) 32)) g n (List.replicate n ⟨none, 0, 0, []⟩) := by
  subst hg
  refine ⟨?_, fun r hr => ?_, k.alloc _ _⟩
  · have h := OwnRows.made w1 32 n hn
    refine ⟨h.1, ?_⟩
    rcases h.2 with h1 | ⟨g, cap, cur, hv, hg, r⟩
    · exact Or.inl h1
    · exact Or.inr ⟨g, cap, cur, hv, Nat.le_trans k.size hg, r⟩
  · obtain ⟨_, rfl⟩ := List.mem_replicate.1 hr
    exact Own.none_ _ _ _
theorem later (h : Fill W w g n rs) (k : Keep w w') : Fill W w' g n rs := ⟨h.own.keep k, fun r hr => (h.rows r hr).keep k, h.keep.trans k⟩
theorem length (h : Fill W w g n rs) : rs.length = n := h.own.length
theorem cell (h : Fill W w g n rs) {i : Nat} {r : RowV} (hi : rs[i]? = some r) : w.cell? ⟨g, i, none⟩ = some (.slice r.A r.n r.c) := by
  have hc := World.ownsRow.cells h.own (g := g) rfl i r.val (by rw [List.getElem?_map, hi]; rfl)
  have ha : (⟨g, 0, none⟩ : Addr).add i = ⟨g, i, none⟩ := by unfold Addr.add; split <;> simp_all
  rwa [ha] at hc
theorem any (h : Fill W w g n rs) {i : Nat} (hi : i < n) : ∃ v, w.cell? ⟨g, i, none⟩ = some v := by
  have hl : i < rs.length := by rw [h.length]; exact hi
  exact ⟨_, h.cell (List.getElem?_eq_getElem hl)⟩
theorem frozen (h : Fill W w g n rs) (i : Nat) : w.frozen? ⟨g, i, none⟩ = false := World.ownsRow.frozenAt h.own i
theorem lt (h : Fill W w g n rs) (hn : 0 < n) : W.heap.size ≤ g ∧ g < w.heap.size := by
  obtain ⟨g', e, h1, h2⟩ := h.own.block hn
  injection e with e
  injection e with e
  subst e
  exact ⟨h1, h2⟩
theorem set (h : Fill W w g n rs) {r : RowV} (i : Nat) (o : Own w W.heap.size 5 r.A r.n r.c r.xs) (hn : 0 < n) : Fill W (w.setCell ⟨g, i, none⟩ (.slice r.A r.n r.c)) g n (rs.set i r) := by
  have hfar : ∀ r' : RowV, Own w W.heap.size 5 r'.A r'.n r'.c r'.xs → Own (w.setCell ⟨g, i, none⟩ (.slice r.A r.n r.c)) W.heap.size 5 r'.A r'.n r'.c r'.xs := fun r' o' => o'.far (p := ⟨g, i, none⟩) (by
    rcases blocks_apart o' h.own (by decide) with z | z
    · rw [z]; simp
    · exact fun e => z (e.trans rfl)) _
  refine ⟨h.own.stored r, fun r' hr' => ?_, h.keep.setCell (h.lt hn).1 _⟩
  rcases List.mem_or_eq_of_mem_set hr' with h1 | h1
  · exact hfar r' (h.rows r' h1)
  · subst h1; exact hfar r' o
theorem done (h : Fill W w g n rs) {M : List (List Nat)} (hM : rowsXs rs = M) (er : Int) : NewOwned W M er (.returned (.tuple #[.slice (some ⟨g, 0, none⟩) n n, .int .i64 er])) w := ⟨_, n, n, rfl, rs, h.own, h.rows, hM, h.keep⟩
end Fill
theorem rowsXs_set (rs : List RowV) (i : Nat) (r : RowV) : rowsXs (rs.set i r) = (rowsXs rs).set i r.xs := by simp [rowsXs, List.map_set]
theorem rowsXs_none (n : Nat) : rowsXs (List.replicate n ⟨none, 0, 0, []⟩) = List.replicate n [] := by simp [rowsXs]
/-- The first k rows laid. -/
theorem laid_set {T : List (List Nat)} {n k : Nat} {x : List Nat} (hT : T.length = n) (hk : k < n) (hx : T.getD k [] = x) : ((T.take k) ++ List.replicate (n - k) []).set k x = (T.take (k + 1)) ++ List.replicate (n - (k + 1)) [] := by
  subst hT
  apply List.ext_getElem?
  intro i
  have e : T[k] = x := by rw [← hx, List.getD_eq_getElem?_getD, List.getElem?_eq_getElem hk]; rfl
  have m1 : min k T.length = k := by omega
  have m2 : min (k + 1) T.length = k + 1 := by omega
  rw [List.getElem?_set]
  simp only [List.length_append, List.length_take, List.length_replicate, List.getElem?_append, List.getElem?_take, List.getElem?_replicate, m1, m2]
  by_cases h1 : k = i
  · subst h1
    rw [if_pos rfl, if_pos (by omega), if_pos (by omega), if_pos (by omega), List.getElem?_eq_getElem hk, e]
  · rw [if_neg h1]
    by_cases h2 : i < k
    · rw [if_pos h2, if_pos h2, if_pos (by omega), if_pos (by omega)]
    · rw [if_neg h2, if_neg (show ¬ i < k + 1 by omega)]
      by_cases h3 : i < T.length
      · rw [if_pos (by omega), if_pos (by omega)]
      · rw [if_neg (by omega), if_neg (by omega)]
theorem laid_zero (T : List (List Nat)) (n : Nat) : (T.take 0) ++ List.replicate (n - 0) [] = List.replicate n [] := by simp
theorem laid_all {T : List (List Nat)} {n : Nat} (h : T.length = n) : (T.take n) ++ List.replicate (n - n) [] = T := by
  subst h; simp
end Go.Proofs.YtcjjhblgejkkeaaGreat
/- The landed code of layer 6: sizes, comparing, the identity. -/
namespace Go.Proofs.YtcjjhblgejkkeaaGreat
open Go.RowKit
set_option linter.unusedVariables false
set_option linter.unusedSimpArgs false
set_option maxRecDepth 100000 in
set_option maxHeartbeats 1000000 in
theorem msize_eq (n c : Nat) (A : Option Addr) (F : Nat → Prop) (rs : List RowV) (w : World) (h : RowsIn w F A n rs) (hn : n ≤ 140737488355328) :
    Calls Tryz.prog 117 #[.slice A n c] w fun e w' => e = .returned (.tuple #[.int .i64 (sizeR (rowsXs rs) : Nat), .int .i64 (sizeC (rowsXs rs) : Nat), .int .i64 (sizeE (rowsXs rs))]) ∧ w = w' := by
  have H := Lib.hid h
  by_cases h0 : n = 0
  · subst h0
    obtain rfl : rs = [] := List.eq_nil_of_length_eq_zero h.1
    have E : Hid (sizeR (rowsXs []) = 0 ∧ sizeC (rowsXs []) = 0 ∧ sizeE (rowsXs []) = 0) := ⟨rfl, rfl, rfl⟩
    clear h
    go_enter Tryz.func117, Tryz.ntmps117
    go_wp2_with fail
    go_ret3
    exact ⟨by rw [E.out.1, E.out.2.1, E.out.2.2]; rfl, rfl⟩
  · obtain ⟨b, off, r0, rfl, hb, hr0, hc0, hl0⟩ := h.at_ (k := 0) (by omega)
    rw [Nat.add_zero] at hc0
    have hlen : ∀ r ∈ rs, r.xs.length = r.n := fun r hr => (h.2.1 r hr).1
    have HF := Lib.hid (fits_iff (n := n) hr0 hlen)
    have HL : Hid ((rowsXs rs).length = n ∧ ((rowsXs rs).headD []).length = r0.n) := ⟨by rw [rowsXs_len, h.1], by
      cases rs with
      | nil => simp at hr0
      | cons a l => simp at hr0; subst hr0; exact hlen _ (by simp)⟩
    have b0 : ((n : Int) == 0) = false := beq_eq_false_iff_ne.2 (by omega)
    have hpos : (0 : Int) < (n : Int) := by omega
    clear h hr0 hl0 hb hlen h0
    go_enter Tryz.func117, Tryz.ntmps117
    go_wp2_with fail
    go_loop [17] (fun i => ∃ (j : Nat), j ≤ n ∧ i = .int .i64 j ∧ ∀ (i : Nat) (r : RowV), i < j → rs[i]? = some r → r.n = r0.n) (fun i => n - (intOf i).toNat)
    case atStart => exact ⟨0, by omega, rfl, fun i r hi => by omega⟩
    case round =>
      obtain ⟨j, hj, rfl, hall⟩ := hrel
      have HA := Lib.hid hall
      clear hall
      by_cases hlt : j < n
      · obtain ⟨b', off', r, e', hb, hr, hc, hl⟩ := H.out.at_ hlt
        injection e' with e'
        injection e' with e1 e2
        subst e1 e2
        have HR := Lib.hid hr
        have e1 : (0 : Int) ≤ (j : Int) := Int.natCast_nonneg _
        have e2 : (j : Int) < (n : Int) := by omega
        by_cases hx : r.n = r0.n
        · have b1 : ((r.n : Int) != (r0.n : Int)) = false := by rw [hx]; simp
          have HX := Lib.hid hx
          clear hr hl hx hb
          go_wp2_with fail
          go_round
          case rel => exact ⟨j + 1, by omega, by go_num, fun i r' hi hr' => by
            by_cases e : i = j
            · subst e; rw [HR.out] at hr'; injection hr' with hr'; subst hr'; exact HX.out
            · exact HA.out i r' (by omega) hr'⟩
          case measure => simp [intOf]; omega
        · have b1 : ((r.n : Int) != (r0.n : Int)) = true := by rw [bne_iff_ne]; omega
          have E : Hid (sizeR (rowsXs rs) = 0 ∧ sizeC (rowsXs rs) = 0 ∧ sizeE (rowsXs rs) = 21) := by
            have hf : ¬ fits (rowsXs rs) := fun e => hx (HF.out.1 e j r hr)
            exact ⟨if_neg hf, if_neg hf, if_neg hf⟩
          clear hr hl hx hb
          go_wp2_with fail
          go_ret3
          exact ⟨by rw [E.out.1, E.out.2.1, E.out.2.2]; rfl, rfl⟩
      · obtain rfl : j = n := by omega
        have E : Hid (sizeR (rowsXs rs) = j ∧ sizeC (rowsXs rs) = r0.n ∧ sizeE (rowsXs rs) = 0) := by
          have hf : fits (rowsXs rs) := HF.out.2 fun i r hr => HA.out i r (by
            rcases Nat.lt_or_ge i rs.length with h1 | h1
            · rw [H.out.1] at h1; exact h1
            · rw [List.getElem?_eq_none h1] at hr; cases hr) hr
          exact ⟨(if_pos hf).trans HL.out.1, (if_pos hf).trans HL.out.2, if_pos hf⟩
        go_wp2_with fail
        go_ret3
        exact ⟨by rw [E.out.1, E.out.2.1, E.out.2.2]; rfl, rfl⟩
theorem msize_any (n c : Nat) (A : Option Addr) (F : Nat → Prop) (rs : List RowV) (w : World) (h : RowsIn w F A n rs) (hF : ∀ b, F b → b < w.heap.size) (hn : n ≤ 1000) :
    Calls Tryz.prog 117 #[.slice A n c] w fun e w' => e = .returned (.tuple #[.int .i64 (sizeR (rowsXs rs) : Nat), .int .i64 (sizeC (rowsXs rs) : Nat), .int .i64 (sizeE (rowsXs rs))]) ∧ Keep w w' :=
  (msize_eq n c A F rs w h (by omega)).mono fun e w' h => ⟨h.1, by rw [← h.2]; exact Keep.refl w⟩
end Go.Proofs.YtcjjhblgejkkeaaGreat
/- The landed code of layer 6: transposes, products. -/
namespace Go.Proofs.YtcjjhblgejkkeaaGreat
open Go.RowKit
set_option linter.unusedVariables false
set_option linter.unusedSimpArgs false
/-- Rows being filled in, one of them number by number. -/
structure Fill2 (W w : World) (g n k : Nat) (rs : List RowV) (g2 m : Nat) (part : List Nat) : Prop where
  own : OwnRows w W.heap.size 32 (some ⟨g, 0, none⟩) n n (rs.set k ⟨some ⟨g2, 0, none⟩, m, m, part⟩)
  rows : ∀ r ∈ rs, Own w W.heap.size 5 r.A r.n r.c r.xs ∧ (Value.slice r.A r.n r.c).ownBlock ≠ some g2
  row : Own w W.heap.size 5 (some ⟨g2, 0, none⟩) m m part
  keep : Keep W w
namespace Fill2
variable {W w w' : World} {g n k g2 m : Nat} {rs : List RowV} {part : List Nat}
theorem ne (h : Fill2 W w g n k rs g2 m part) : g ≠ g2 := fun e => by
  rcases blocks_apart h.row h.own (by decide) with z | z
  · simp [Value.ownBlock] at z
  · exact z (by rw [e]; rfl)
theorem start (h : Fill W w g n rs) (hk : k < n) (hm : m ≤ 140737488355328) (hg2 : w.heap.size = g2) :
    Fill2 W ((w.alloc (.cells (madeCells #[.int .u8 0] m) 5)).setCell ⟨g, k, none⟩ (.slice (some ⟨g2, 0, none⟩) m m)) g n k rs g2 m (List.replicate m 0) := by
  subst hg2
  have hf := h.later ((Keep.refl w).alloc (madeCells #[.int .u8 0] m) 5)
  have ho := (Own.made w 5 m hm).lower h.keep.size
  have hs := hf.set (r := ⟨some ⟨w.heap.size, 0, none⟩, m, m, List.replicate m 0⟩) k ho (by omega)
  have hg := (h.lt (by omega)).2
  refine ⟨hs.own, fun r hr => ⟨?_, fun e => ?_⟩, ?_, hs.keep⟩
  · refine (hf.rows r hr).far (p := ⟨g, k, none⟩) ?_ _
    rcases blocks_apart (hf.rows r hr) hf.own (by decide) with z | z
    · rw [z]; simp
    · exact fun e => z (e.trans rfl)
  · have := ((h.rows r hr).1.lt _ e).2; omega
  · exact ho.far (p := ⟨g, k, none⟩) (by simp [Value.ownBlock]; omega) _
theorem cell (h : Fill2 W w g n k rs g2 m part) (hk : k < rs.length) : w.cell? ⟨g, k, none⟩ = some (.slice (some ⟨g2, 0, none⟩) m m) := by
  have hc := World.ownsRow.cells h.own (g := g) rfl k (.slice (some ⟨g2, 0, none⟩) m m) (by rw [List.getElem?_map, List.getElem?_set_self hk]; rfl)
  have ha : (⟨g, 0, none⟩ : Addr).add k = ⟨g, k, none⟩ := by unfold Addr.add; split <;> simp_all
  rwa [ha] at hc
theorem store (h : Fill2 W w g n k rs g2 m part) (i v : Nat) (hv : v < 256) : Fill2 W (w.setCell ⟨g2, i, none⟩ (.int .u8 (v : Int))) g n k rs g2 m (part.set i v) := by
  have ht : Turned (fun b => b = g2) w (w.setCell ⟨g2, i, none⟩ (.int .u8 (v : Int))) := Turned.set (F := fun b => b = g2) _ _ _ rfl
  refine ⟨?_, fun r hr => ⟨(h.rows r hr).1.far (p := ⟨g2, i, none⟩) (h.rows r hr).2 _, (h.rows r hr).2⟩, h.row.stored hv, h.keep.setCell ?_ _⟩
  · have z := h.own.turned ht fun b hb e => by
      have hb : g = b := by simpa [Value.ownBlock] using hb
      exact h.ne (hb.trans e)
    unfold OwnRows at z ⊢
    rw [List.map_set] at z ⊢
    exact z
  · exact (h.row.1.lt g2 rfl).1
theorem drew (h : Fill2 W w g n k rs g2 m part) : Fill2 W w.drew g n k rs g2 m part := ⟨h.own, h.rows, h.row, h.keep.drew⟩
theorem done (h : Fill2 W w g n k rs g2 m part) : Fill W w g n (rs.set k ⟨some ⟨g2, 0, none⟩, m, m, part⟩) := ⟨h.own, fun r hr => by
  rcases List.mem_or_eq_of_mem_set hr with h1 | h1
  · exact (h.rows r h1).1
  · subst h1; exact h.row, h.keep⟩
end Fill2
theorem colN_upto (M : List (List Nat)) (c n : Nat) : colN M c n = upto n (fun j => (M.getD j []).getD c 0) (fun _ => 0) n := by rw [upto_all]; rfl
theorem trN_at (M : List (List Nat)) (r k c : Nat) (h : c < k) : (trN M r k).getD c [] = colN M c r := by
  rw [trN, List.getD_eq_getElem?_getD, List.getElem?_map, List.getElem?_range h]; rfl
theorem trN_len (M : List (List Nat)) (r k : Nat) : (trN M r k).length = k := by simp [trN]
theorem RowsIn.rowsAt {w : World} {F : Nat → Prop} {A : Option Addr} {n : Nat} {rs : List RowV} (h : RowsIn w F A n rs) {B : Nat} (hF : ∀ b, F b → b < B) (hb : ∀ r ∈ rs, r.n ≤ 140737488351232) : RowsAt w B A n rs :=
  ⟨h.1, fun r hr => ⟨(h.2.1 r hr).bytes hF, hb r hr, (h.2.1 r hr).2.2.1⟩, fun hp => by
    obtain ⟨b, off, e, hFb, hc⟩ := h.2.2 hp
    exact ⟨b, off, e, hF b hFb, hc⟩⟩
theorem rowN_comb {r : List Nat} {N : List (List Nat)} (hr : AllB r) (hN : ∀ x ∈ N, AllB x) (m c : Nat) : vComb c N r m = rowN r N m c := tab_congr fun k _ => by
  show sumX _ m = sumX _ m
  refine sumX_congr fun i _ => mul_comm' _ _ ?_ (hr.getD i)
  cases e : N[i]? with
  | none => simp [List.getD_eq_getElem?_getD, e]
  | some x => rw [List.getD_eq_getElem?_getD (l := N), e]; exact (hN x (List.mem_of_getElem? e)).getD k
theorem prodN_at {M N : List (List Nat)} {n c k : Nat} {r : List Nat} (h : M[k]? = some r) (hk : k < M.length) : (prodN M N n c M.length).getD k [] = rowN r N n c := by
  rw [prodN, List.take_length, List.getD_eq_getElem?_getD, List.getElem?_map, h]; rfl
theorem prodN_len (M N : List (List Nat)) (n c : Nat) : (prodN M N n c M.length).length = M.length := by simp [prodN]
theorem prodN_none {M N : List (List Nat)} (h : N.length = 0) : prodN M N 0 (sizeC N) M.length = List.replicate M.length [] := by
  obtain rfl := List.eq_nil_of_length_eq_zero h
  rw [prodN, List.take_length]
  exact List.ext_getElem (by simp) fun i h1 h2 => by simp [rowN, sizeC, fits, tab]
end Go.Proofs.YtcjjhblgejkkeaaGreat
/- The landed code of layer 6: products. -/
namespace Go.Proofs.YtcjjhblgejkkeaaGreat
open Go.RowKit
set_option linter.unusedVariables false
set_option linter.unusedSimpArgs false
end Go.Proofs.YtcjjhblgejkkeaaGreat
/- The landed code of layer 6: a matrix on its way to a reduced one: a row divided, a row wiped. -/
namespace Go.Proofs.YtcjjhblgejkkeaaGreat
open Go.RowKit
set_option linter.unusedVariables false
set_option linter.unusedSimpArgs false
/-- A matrix on its way: at block b its rows, how many are done, the column; the first q rows are slices of their own. -/
structure Wk (W w : World) (b : Nat) (A : Option Addr) (n cap nc B d col q : Nat) (rs : List RowV) : Prop where
  cell : w.heap[b]? = some (.cells #[.slice A n cap, .int .i64 (d : Int), .int .i64 (col : Int)] 199 (0, 0))
  own : OwnRows w W.heap.size 32 A n cap rs
  blk : ∀ k, (Value.slice A n cap).ownBlock = some k → k < B ∧ k ≠ b
  hb : W.heap.size ≤ b ∧ b < B ∧ B ≤ w.heap.size
  rows : ∀ r ∈ rs, r.n = nc ∧ LiesIn w (fun k => k < W.heap.size ∨ (B ≤ k ∧ k < w.heap.size)) r
  done : ∀ (i : Nat) (r : RowV), i < q → rs[i]? = some r → Own w B 5 r.A r.n r.c r.xs
  keep : Keep W w
namespace Wk
variable {W w w' : World} {b : Nat} {A : Option Addr} {n cap nc B d col q : Nat} {rs : List RowV}
theorem length (h : Wk W w b A n cap nc B d col q rs) : rs.length = n := h.own.length
theorem len (h : Wk W w b A n cap nc B d col q rs) : (rowsXs rs).length = n := by rw [rowsXs_len, h.length]
theorem ok (h : Wk W w b A n cap nc B d col q rs) : Lin.RowsOk nc (rowsXs rs) := fun x hx => by
  obtain ⟨r, hr, rfl⟩ := List.mem_map.1 hx
  have := h.rows r hr
  exact ⟨this.2.1.trans this.1, this.2.2.1⟩
theorem later (h : Wk W w b A n cap nc B d col q rs) (k : Keep w w') : Wk W w' b A n cap nc B d col q rs :=
  ⟨(k.block b (Nat.lt_of_lt_of_le h.hb.2.1 h.hb.2.2)).trans h.cell, h.own.keep k, h.blk, ⟨h.hb.1, h.hb.2.1, Nat.le_trans h.hb.2.2 k.size⟩,
   fun r hr => ⟨(h.rows r hr).1, ((h.rows r hr).2.turned (Turned.of_keep (F := fun _ => False) k) fun _ _ e => e).mono fun j hj => by have := k.size; omega⟩, fun i r hi hr => (h.done i r hi hr).keep k, h.keep.trans k⟩
theorem cells (h : Wk W w b A n cap nc B d col q rs) : w.cell? ⟨b, 0, none⟩ = some (.slice A n cap) ∧ w.cell? ⟨b, 1, none⟩ = some (.int .i64 (d : Int)) ∧ w.cell? ⟨b, 2, none⟩ = some (.int .i64 (col : Int)) ∧ ∀ i, w.frozen? ⟨b, i, none⟩ = false := by
  have hc := h.cell
  refine ⟨?_, ?_, ?_, fun i => ?_⟩
  · simp [World.cell?, hc]
  · simp [World.cell?, hc]
  · simp [World.cell?, hc]
  · simp [World.frozen?, hc]
/-- Where the rows stand. -/
theorem place (h : Wk W w b A n cap nc B d col q rs) (hn : 0 < n) : ∃ g, A = some ⟨g, 0, none⟩ ∧ W.heap.size ≤ g ∧ g < B ∧ g ≠ b ∧ (∀ i, w.frozen? ⟨g, i, none⟩ = false) ∧ ∀ i r, rs[i]? = some r → w.cell? ⟨g, i, none⟩ = some (.slice r.A r.n r.c) := by
  obtain ⟨g, rfl, h1, h2⟩ := h.own.block hn
  have hk := h.blk g rfl
  refine ⟨g, rfl, h1, hk.1, hk.2, fun i => World.ownsRow.frozenAt h.own i, fun i r hi => ?_⟩
  have hc := World.ownsRow.cells h.own (g := g) rfl i r.val (by rw [List.getElem?_map, hi]; rfl)
  have ha : (⟨g, 0, none⟩ : Addr).add i = ⟨g, i, none⟩ := by unfold Addr.add; split <;> simp_all
  rwa [ha] at hc
theorem row (h : Wk W w b A n cap nc B d col q rs) {k : Nat} (hk : k < n) : ∃ r, rs[k]? = some r ∧ r.n = nc ∧ Bytes w w.heap.size r.A nc r.xs := by
  have hl : k < rs.length := by rw [h.length]; exact hk
  have hm := h.rows _ (List.getElem_mem hl)
  refine ⟨rs[k], List.getElem?_eq_getElem hl, hm.1, ?_⟩
  have := hm.2.bytes (B := w.heap.size) fun j hj => by have := h.keep.size; omega
  rw [hm.1] at this; exact this
/-- A row is put in another's place. -/
theorem put {g : Nat} (h : Wk W w b (some ⟨g, 0, none⟩) n cap nc B d col q rs) (k q' : Nat) {r : RowV} (hn : 0 < n) (hr : r.n = nc) (hl : LiesIn w (fun k => k < W.heap.size ∨ (B ≤ k ∧ k < w.heap.size)) r)
    (hq : ∀ (i : Nat) (r' : RowV), i < q' → (rs.set k r)[i]? = some r' → Own w B 5 r'.A r'.n r'.c r'.xs) :
    Wk W (w.setCell ⟨g, k, none⟩ (.slice r.A r.n r.c)) b (some ⟨g, 0, none⟩) n cap nc B d col q' (rs.set k r) := by
  obtain ⟨g', e, g1, g2, g3, _, _⟩ := h.place hn
  injection e with e
  injection e with e
  subst e
  have ht : Turned (fun b => b = g) w (w.setCell ⟨g, k, none⟩ (.slice r.A r.n r.c)) := Turned.set (F := fun b => b = g) _ _ _ rfl
  have hs : (w.setCell ⟨g, k, none⟩ (.slice r.A r.n r.c)).heap.size = w.heap.size := by simp [World.setCell]
  refine ⟨(ht.block b (Nat.lt_of_lt_of_le h.hb.2.1 h.hb.2.2) (fun e => g3 e.symm)).trans h.cell, h.own.stored r, h.blk, ⟨h.hb.1, h.hb.2.1, by rw [hs]; exact h.hb.2.2⟩, fun r' hr' => ?_, fun i r' hi hr' => ?_, h.keep.setCell g1 _⟩
  · have hall : r'.n = nc ∧ LiesIn w (fun k => k < W.heap.size ∨ (B ≤ k ∧ k < w.heap.size)) r' := by
      rcases List.mem_or_eq_of_mem_set hr' with h1 | h1
      · exact h.rows r' h1
      · subst h1; exact ⟨hr, hl⟩
    exact ⟨hall.1, (hall.2.turned ht fun j hj e => by omega).mono fun j hj => by rw [hs]; exact hj⟩
  · exact (hq i r' hi hr').turned ht fun j hj e => by
      have := ((hq i r' hi hr').1.lt j hj).1
      omega
theorem setAt (h : Wk W w b A n cap nc B d col q rs) (i : Nat) (v : Value) : Turned (fun j => j = b) w (w.setCell ⟨b, i, none⟩ v) ∧ (w.setCell ⟨b, i, none⟩ v).heap[b]? = some (.cells ((#[.slice A n cap, .int .i64 (d : Int), .int .i64 (col : Int)] : Array Value).setIfInBounds i v) 199 (0, 0)) := by
  refine ⟨Turned.set (F := fun b' => b' = b) _ _ _ rfl, ?_⟩
  have hc := h.cell
  simp [World.setCell, Array.getElem?_modify, hc]
theorem aside (h : Wk W w b A n cap nc B d col q rs) {d' col' : Nat} (ht : Turned (fun j => j = b) w w') (hs : w'.heap.size = w.heap.size) (hc : w'.heap[b]? = some (.cells #[.slice A n cap, .int .i64 (d' : Int), .int .i64 (col' : Int)] 199 (0, 0))) :
    Wk W w' b A n cap nc B d' col' q rs := by
  have hb := h.hb
  refine ⟨hc, h.own.turned ht fun j hj e => (h.blk j hj).2 e, h.blk, ⟨hb.1, hb.2.1, by rw [hs]; exact hb.2.2⟩, fun r hr => ⟨(h.rows r hr).1, ((h.rows r hr).2.turned ht fun j hj e => by omega).mono fun j hj => by rw [hs]; exact hj⟩, fun i r hi hr => (h.done i r hi hr).turned ht fun j hj e => ?_, ht.keep h.keep fun j e => by omega⟩
  have := ((h.done i r hi hr).1.lt j hj).1
  omega
theorem setDone (h : Wk W w b A n cap nc B d col q rs) (d' : Nat) : Wk W (w.setCell ⟨b, 1, none⟩ (.int .i64 (d' : Int))) b A n cap nc B d' col q rs :=
  h.aside (h.setAt 1 _).1 (by simp [World.setCell]) (h.setAt 1 _).2
theorem setCol (h : Wk W w b A n cap nc B d col q rs) (col' : Nat) : Wk W (w.setCell ⟨b, 2, none⟩ (.int .i64 (col' : Int))) b A n cap nc B d col' q rs :=
  h.aside (h.setAt 2 _).1 (by simp [World.setCell]) (h.setAt 2 _).2
/-- A new row of one's own. -/
theorem putOwn {g : Nat} (h : Wk W w b (some ⟨g, 0, none⟩) n cap nc B d col q rs) (k q' : Nat) {r : RowV} (hn : 0 < n) (hk : k < n) (hr : r.n = nc) (ho : Own w B 5 r.A r.n r.c r.xs) (hq : q' ≤ q ∨ (q' = q + 1 ∧ k = q)) :
    Wk W (w.setCell ⟨g, k, none⟩ (.slice r.A r.n r.c)) b (some ⟨g, 0, none⟩) n cap nc B d col q' (rs.set k r) := by
  have hb := h.hb
  refine h.put k q' hn hr (ho.lies.mono fun j hj => Or.inr (ho.1.lt j hj)) fun i r' hi hr' => ?_
  by_cases e : k = i
  · subst e
    rw [List.getElem?_set_self (by rw [h.length]; exact hk)] at hr'
    injection hr' with hr'
    subst hr'; exact ho
  · rw [List.getElem?_set_ne e] at hr'
    exact h.done i r' (by omega) hr'
end Wk
set_option maxRecDepth 100000 in
theorem meach_any (R : Nat → World → Prop) (f : Nat) (p : Value) (a b : Nat) (w : World) (hab : a ≤ b) (hb : b ≤ 100000) (ef : ∀ args w, (callFunc f args).run Tryz.prog w = .ok (.enter f args) w) (h0 : R a w)
    (hstep : ∀ i wr, a ≤ i → i < b → R i wr → Calls Tryz.prog f #[p, .int .i64 (i : Int)] wr fun e w' => e = .returned (.tuple #[]) ∧ R (i + 1) w') :
    Calls Tryz.prog 143 #[.int .i64 (a : Int), .int .i64 (b : Int), .func (.func f) #[p] #[]] w fun e w' => e = .returned (.tuple #[]) ∧ R b w' := by
  go_enter Tryz.func143, Tryz.ntmps143
  go_wp2_with fail
  go_loopw [6] (fun i wr => ∃ k : Nat, a ≤ k ∧ k ≤ b ∧ i = .int .i64 k ∧ R k wr) (fun i _ => b - (intOf i).toNat)
  case atStart => exact ⟨a, Nat.le_refl _, hab, rfl, h0⟩
  case round =>
    obtain ⟨k, hak, hk, rfl, hr⟩ := hrel
    by_cases hlt : k < b
    · have hs := hstep k wr hak hlt hr
      have e1 : (k : Int) < (b : Int) := by omega
      have HS := Lib.hid hs
      clear hs hstep h0 hr
      go_wp2_with fail
      refine HS.out.mono ?_
      rintro e w2 ⟨rfl, hr2⟩
      go_wp2_with fail
      go_round
      case rel => exact ⟨k + 1, by omega, by omega, by go_num, hr2⟩
      case measure => simp [intOf]; omega
    · obtain rfl : k = b := by omega
      go_wp2_with fail
      go_end0
      exact ⟨rfl, hr⟩
set_option maxRecDepth 100000 in
set_option maxHeartbeats 1000000 in
theorem mdivide_any {W w : World} {b : Nat} {A : Option Addr} {n cap nc B d col q k : Nat} {rs : List RowV} {r : RowV} (h : Wk W w b A n cap nc B d col q rs) (hk : k < n) (hkq : k = q) (hr : rs[k]? = some r) (hcol : col < nc) (hx0 : r.xs.getD col 0 ≠ 0) (hn : n ≤ 1000) (hnc : nc ≤ 2000) :
    Calls Tryz.prog 144 #[.pointer (some ⟨b, 0, none⟩), .int .i64 (k : Int)] w fun e w' => e = .returned (.tuple #[]) ∧ ∃ r', Wk W w' b A n cap nc B d col (q + 1) (rs.set k r') ∧ r'.xs = vScale nc r.xs (invN (r.xs.getD col 0)) := by
  obtain ⟨r1, hr1, hrn, hby⟩ := h.row hk
  obtain rfl : r = r1 := Option.some.inj (hr.symm.trans hr1)
  obtain ⟨g, rfl, g1, g2, g3, gf, gc⟩ := h.place (by omega)
  obtain ⟨c0, _, c2, _⟩ := h.cells
  have ck := gc k r hr
  rw [hrn] at ck
  obtain ⟨b3, o3, e3, hb3, cx⟩ := hby.at_ hcol
  have hx := hby.all.getD col
  have HBY := Lib.hid hby
  have H := Lib.hid h
  have HR := Lib.hid (And.intro hr hrn)
  obtain ⟨x, hxe⟩ : ∃ x, r.xs.getD col 0 = x := ⟨_, rfl⟩
  rw [hxe] at hx hx0 cx ⊢
  have d1 : (0 : Int) ≤ (k : Int) := Int.natCast_nonneg _
  have d2 : (k : Int) < (n : Int) := by omega
  have d3 : (0 : Int) ≤ (col : Int) := Int.natCast_nonneg _
  have d4 : (col : Int) < (nc : Int) := by omega
  have HKN : Hid (k < n ∧ k = q ∧ nc ≤ 2000) := ⟨hk, hkq, hnc⟩
  rw [e3] at ck
  have HE3 := Lib.hid e3
  clear h hby hr hr1 hrn gc e3 hb3 hxe hkq
  go_enter Tryz.func144, Tryz.ntmps144
  go_wp2_with fail
  refine wp_region_noPanic ?_
  refine wp_region_held_drew (S := fun wz => wz.cell? ⟨b, 0, none⟩ = some (.slice (some ⟨g, 0, none⟩) n cap) ∧ wz.cell? ⟨b, 2, none⟩ = some (.int .i64 (col : Int)) ∧ wz.cell? ⟨g, k, none⟩ = some (.slice (some ⟨b3, o3, none⟩) nc r.c) ∧ wz.cell? ⟨b3, o3 + col, none⟩ = some (.int .u8 (x : Int))) (by kernel_rfl) ⟨c0, c2, ck, cx⟩ (fun hHeld => ?_)
  refine wpAnyH_take (i := 0) (v := ?_) rfl (by kernel_rfl) (by kernel_rfl) (by kernel_rfl) (fun _ _ _ h => h) (Or.inl ⟨by rfl, ?_⟩) hHeld ?_
  rotate_left
  · intro wq hSw
    go_simp
    all_goals with_reducible rfl
  try simp only [Act.put, List.getElem_toArray, List.getElem_cons_succ, List.getElem_cons_zero, List.setIfInBounds_toArray, List.set_cons_zero, List.set_cons_succ]
  refine wpAnyH_take (i := 1) (v := ?_) rfl (by kernel_rfl) (by kernel_rfl) (by kernel_rfl) (fun _ _ _ h => h) (Or.inl ⟨by rfl, ?_⟩) hHeld ?_
  rotate_left
  · intro wq hSw
    go_simp
    all_goals with_reducible rfl
  try simp only [Act.put, List.getElem_toArray, List.getElem_cons_succ, List.getElem_cons_zero, List.setIfInBounds_toArray, List.set_cons_zero, List.set_cons_succ]
  refine wpAnyH_take (i := 2) (v := ?_) rfl (by kernel_rfl) (by kernel_rfl) (by kernel_rfl) (fun _ _ _ h => h) (Or.inl ⟨by rfl, ?_⟩) hHeld ?_
  rotate_left
  · intro wq hSw
    go_simp
    all_goals with_reducible rfl
  try simp only [Act.put, List.getElem_toArray, List.getElem_cons_succ, List.getElem_cons_zero, List.setIfInBounds_toArray, List.set_cons_zero, List.set_cons_succ]
  refine wpAnyH_take (i := 3) (v := ?_) rfl (by kernel_rfl) (by kernel_rfl) (by kernel_rfl) (fun _ _ _ h => h) (Or.inl ⟨by rfl, ?_⟩) hHeld ?_
  rotate_left
  · intro wq hSw
    have q0 := hSw.1
    go_simp
    all_goals with_reducible rfl
  try simp only [Act.put, List.getElem_toArray, List.getElem_cons_succ, List.getElem_cons_zero, List.setIfInBounds_toArray, List.set_cons_zero, List.set_cons_succ]
  refine wpAnyH_take (i := 4) (v := ?_) rfl (by kernel_rfl) (by kernel_rfl) (by kernel_rfl) (fun _ _ _ h => h) (Or.inl ⟨by rfl, ?_⟩) hHeld ?_
  rotate_left
  · intro wq hSw
    go_simp
    all_goals with_reducible rfl
  try simp only [Act.put, List.getElem_toArray, List.getElem_cons_succ, List.getElem_cons_zero, List.setIfInBounds_toArray, List.set_cons_zero, List.set_cons_succ]
  refine wpAnyH_take (i := 5) (v := ?_) rfl (by kernel_rfl) (by kernel_rfl) (by kernel_rfl) (fun _ _ _ h => h) (Or.inl ⟨by rfl, ?_⟩) hHeld ?_
  rotate_left
  · intro wq hSw
    go_simp
    all_goals with_reducible rfl
  try simp only [Act.put, List.getElem_toArray, List.getElem_cons_succ, List.getElem_cons_zero, List.setIfInBounds_toArray, List.set_cons_zero, List.set_cons_succ]
  refine wpAnyH_take (i := 6) (v := ?_) rfl (by kernel_rfl) (by kernel_rfl) (by kernel_rfl) (fun _ _ _ h => h) (Or.inl ⟨by rfl, ?_⟩) hHeld ?_
  rotate_left
  · intro wq hSw
    have q0 := hSw.2.2.1
    go_simp
    all_goals with_reducible rfl
  try simp only [Act.put, List.getElem_toArray, List.getElem_cons_succ, List.getElem_cons_zero, List.setIfInBounds_toArray, List.set_cons_zero, List.set_cons_succ]
  refine wpAnyH_take (i := 7) (v := ?_) rfl (by kernel_rfl) (by kernel_rfl) (by kernel_rfl) (fun _ _ _ h => h) (Or.inl ⟨by rfl, ?_⟩) hHeld ?_
  rotate_left
  · intro wq hSw
    go_simp
    all_goals with_reducible rfl
  try simp only [Act.put, List.getElem_toArray, List.getElem_cons_succ, List.getElem_cons_zero, List.setIfInBounds_toArray, List.set_cons_zero, List.set_cons_succ]
  refine wpAnyH_take (i := 8) (v := ?_) rfl (by kernel_rfl) (by kernel_rfl) (by kernel_rfl) (fun _ _ _ h => h) (Or.inl ⟨by rfl, ?_⟩) hHeld ?_
  rotate_left
  · intro wq hSw
    go_simp
    all_goals with_reducible rfl
  try simp only [Act.put, List.getElem_toArray, List.getElem_cons_succ, List.getElem_cons_zero, List.setIfInBounds_toArray, List.set_cons_zero, List.set_cons_succ]
  refine wpAnyH_take (i := 9) (v := ?_) rfl (by kernel_rfl) (by kernel_rfl) (by kernel_rfl) (fun _ _ _ h => h) (Or.inl ⟨by rfl, ?_⟩) hHeld ?_
  rotate_left
  · intro wq hSw
    have q0 := hSw.2.1
    go_simp
    all_goals with_reducible rfl
  try simp only [Act.put, List.getElem_toArray, List.getElem_cons_succ, List.getElem_cons_zero, List.setIfInBounds_toArray, List.set_cons_zero, List.set_cons_succ]
  refine wpAnyH_take (i := 10) (v := ?_) rfl (by kernel_rfl) (by kernel_rfl) (by kernel_rfl) (fun _ _ _ h => h) (Or.inl ⟨by rfl, ?_⟩) hHeld ?_
  rotate_left
  · intro wq hSw
    have q0 := hSw.2.1
    go_simp
    all_goals with_reducible rfl
  try simp only [Act.put, List.getElem_toArray, List.getElem_cons_succ, List.getElem_cons_zero, List.setIfInBounds_toArray, List.set_cons_zero, List.set_cons_succ]
  refine wpAnyH_take (i := 11) (v := ?_) rfl (by kernel_rfl) (by kernel_rfl) (by kernel_rfl) (fun _ _ _ h => h) (Or.inl ⟨by rfl, ?_⟩) hHeld ?_
  rotate_left
  · intro wq hSw
    go_simp
    all_goals with_reducible rfl
  try simp only [Act.put, List.getElem_toArray, List.getElem_cons_succ, List.getElem_cons_zero, List.setIfInBounds_toArray, List.set_cons_zero, List.set_cons_succ]
  refine wpAnyH_take (i := 12) (v := ?_) rfl (by kernel_rfl) (by kernel_rfl) (by kernel_rfl) (fun _ _ _ h => h) (Or.inl ⟨by rfl, ?_⟩) hHeld ?_
  rotate_left
  · intro wq hSw
    have q0 := hSw.2.2.2
    go_simp
    all_goals with_reducible rfl
  try simp only [Act.put, List.getElem_toArray, List.getElem_cons_succ, List.getElem_cons_zero, List.setIfInBounds_toArray, List.set_cons_zero, List.set_cons_succ]
  refine wpAnyH_ready (rs := [13]) (by kernel_rfl) (by simp) ?_
  refine AllReadyH.cons rfl (fun K hK => ?_) AllReadyH.nil
  go_simp
  refine (inv_pos x hx (by omega) _).mono ?_
  rintro e w1 ⟨rfl, k1⟩
  have K1 : Hid (Keep w w1) := (Keep.refl w).drew.trans k1
  have H1 := Lib.hid (H.out.later K1.out)
  obtain ⟨i1, hi1⟩ : ∃ i1, invN x = i1 := ⟨_, rfl⟩
  have hi2 : i1 < 256 := by rw [← hi1]; exact invN_lt _
  rw [hi1]
  have HI := Lib.hid hi1
  obtain ⟨c0', _, c2', _⟩ := H1.out.cells
  obtain ⟨g', eg, _, _, _, gf', gc'⟩ := H1.out.place (by omega)
  injection eg with eg
  injection eg with eg
  subst eg
  have ck' := gc' k r HR.out.1
  rw [HR.out.2] at ck'
  have ck3 := ck'
  rw [HE3.out] at ck3
  have cx' := Below.cell K1.out (World.block_lt_of_cell? _ _ cx) |>.trans cx
  clear k1 gc' c0 c2 ck cx gf hi1
  refine hK.out _ _ ⟨c0', c2', ck3, cx'⟩ (fun hHeld => ?_)
  clear hK K
  try simp only [Act.put, List.getElem_toArray, List.getElem_cons_succ, List.getElem_cons_zero, List.setIfInBounds_toArray, List.set_cons_zero, List.set_cons_succ]
  clear ck3
  refine wpAnyH_take (i := 14) (v := ?_) rfl (by kernel_rfl) (by kernel_rfl) (by kernel_rfl) (fun _ _ _ h => h) (Or.inl ⟨by rfl, ?_⟩) hHeld ?_
  rotate_left
  · intro wq hSw
    go_simp
    all_goals with_reducible rfl
  try simp only [Act.put, List.getElem_toArray, List.getElem_cons_succ, List.getElem_cons_zero, List.setIfInBounds_toArray, List.set_cons_zero, List.set_cons_succ]
  refine wpAnyH_take (i := 15) (v := ?_) rfl (by kernel_rfl) (by kernel_rfl) (by kernel_rfl) (fun _ _ _ h => h) (Or.inl ⟨by rfl, ?_⟩) hHeld ?_
  rotate_left
  · intro wq hSw
    go_simp
    all_goals with_reducible rfl
  try simp only [Act.put, List.getElem_toArray, List.getElem_cons_succ, List.getElem_cons_zero, List.setIfInBounds_toArray, List.set_cons_zero, List.set_cons_succ]
  refine wpAnyH_take (i := 16) (v := ?_) rfl (by kernel_rfl) (by kernel_rfl) (by kernel_rfl) (fun _ _ _ h => h) (Or.inl ⟨by rfl, ?_⟩) hHeld ?_
  rotate_left
  · intro wq hSw
    go_simp
    all_goals with_reducible rfl
  try simp only [Act.put, List.getElem_toArray, List.getElem_cons_succ, List.getElem_cons_zero, List.setIfInBounds_toArray, List.set_cons_zero, List.set_cons_succ]
  refine wpAnyH_take (i := 17) (v := ?_) rfl (by kernel_rfl) (by kernel_rfl) (by kernel_rfl) (fun _ _ _ h => h) (Or.inl ⟨by rfl, ?_⟩) hHeld ?_
  rotate_left
  · intro wq hSw
    go_simp
    all_goals with_reducible rfl
  try simp only [Act.put, List.getElem_toArray, List.getElem_cons_succ, List.getElem_cons_zero, List.setIfInBounds_toArray, List.set_cons_zero, List.set_cons_succ]
  refine wpAnyH_take (i := 18) (v := ?_) rfl (by kernel_rfl) (by kernel_rfl) (by kernel_rfl) (fun _ _ _ h => h) (Or.inl ⟨by rfl, ?_⟩) hHeld ?_
  rotate_left
  · intro wq hSw
    go_simp
    all_goals with_reducible rfl
  try simp only [Act.put, List.getElem_toArray, List.getElem_cons_succ, List.getElem_cons_zero, List.setIfInBounds_toArray, List.set_cons_zero, List.set_cons_succ]
  refine wpAnyH_done (by kernel_rfl) ?_ _
  refine NoPanic.normal ?_
  clear hHeld
  go_wp2_with fail
  refine wp_region_noPanic ?_
  refine wp_region_held_drew (S := fun wz => wz.cell? ⟨b, 0, none⟩ = some (.slice (some ⟨g, 0, none⟩) n cap)) (by kernel_rfl) c0' (fun hHeld => ?_)
  refine wpAnyH_take (i := 0) (v := ?_) rfl (by kernel_rfl) (by kernel_rfl) (by kernel_rfl) (fun _ _ _ h => h) (Or.inl ⟨by rfl, ?_⟩) hHeld ?_
  rotate_left
  · intro wq hSw
    go_simp
    all_goals with_reducible rfl
  try simp only [Act.put, List.getElem_toArray, List.getElem_cons_succ, List.getElem_cons_zero, List.setIfInBounds_toArray, List.set_cons_zero, List.set_cons_succ]
  refine wpAnyH_take (i := 1) (v := ?_) rfl (by kernel_rfl) (by kernel_rfl) (by kernel_rfl) (fun _ _ _ h => h) (Or.inl ⟨by rfl, ?_⟩) hHeld ?_
  rotate_left
  · intro wq hSw
    go_simp
    all_goals with_reducible rfl
  try simp only [Act.put, List.getElem_toArray, List.getElem_cons_succ, List.getElem_cons_zero, List.setIfInBounds_toArray, List.set_cons_zero, List.set_cons_succ]
  refine wpAnyH_take (i := 2) (v := ?_) rfl (by kernel_rfl) (by kernel_rfl) (by kernel_rfl) (fun _ _ _ h => h) (Or.inl ⟨by rfl, ?_⟩) hHeld ?_
  rotate_left
  · intro wq hSw
    go_simp
    all_goals with_reducible rfl
  try simp only [Act.put, List.getElem_toArray, List.getElem_cons_succ, List.getElem_cons_zero, List.setIfInBounds_toArray, List.set_cons_zero, List.set_cons_succ]
  refine wpAnyH_take (i := 3) (v := ?_) rfl (by kernel_rfl) (by kernel_rfl) (by kernel_rfl) (fun _ _ _ h => h) (Or.inl ⟨by rfl, ?_⟩) hHeld ?_
  rotate_left
  · intro wq hSw
    have q0 := hSw
    go_simp
    all_goals with_reducible rfl
  try simp only [Act.put, List.getElem_toArray, List.getElem_cons_succ, List.getElem_cons_zero, List.setIfInBounds_toArray, List.set_cons_zero, List.set_cons_succ]
  refine wpAnyH_take (i := 4) (v := ?_) rfl (by kernel_rfl) (by kernel_rfl) (by kernel_rfl) (fun _ _ _ h => h) (Or.inl ⟨by rfl, ?_⟩) hHeld ?_
  rotate_left
  · intro wq hSw
    go_simp
    all_goals with_reducible rfl
  try simp only [Act.put, List.getElem_toArray, List.getElem_cons_succ, List.getElem_cons_zero, List.setIfInBounds_toArray, List.set_cons_zero, List.set_cons_succ]
  refine wpAnyH_take (i := 5) (v := ?_) rfl (by kernel_rfl) (by kernel_rfl) (by kernel_rfl) (fun _ _ _ h => h) (Or.inl ⟨by rfl, ?_⟩) hHeld ?_
  rotate_left
  · intro wq hSw
    go_simp
    all_goals with_reducible rfl
  try simp only [Act.put, List.getElem_toArray, List.getElem_cons_succ, List.getElem_cons_zero, List.setIfInBounds_toArray, List.set_cons_zero, List.set_cons_succ]
  refine wpAnyH_take (i := 6) (v := ?_) rfl (by kernel_rfl) (by kernel_rfl) (by kernel_rfl) (fun _ _ _ h => h) (Or.inl ⟨by rfl, ?_⟩) hHeld ?_
  rotate_left
  · intro wq hSw
    go_simp
    all_goals with_reducible rfl
  try simp only [Act.put, List.getElem_toArray, List.getElem_cons_succ, List.getElem_cons_zero, List.setIfInBounds_toArray, List.set_cons_zero, List.set_cons_succ]
  refine wpAnyH_take (i := 7) (v := ?_) rfl (by kernel_rfl) (by kernel_rfl) (by kernel_rfl) (fun _ _ _ h => h) (Or.inl ⟨by rfl, ?_⟩) hHeld ?_
  rotate_left
  · intro wq hSw
    go_simp
    all_goals with_reducible rfl
  try simp only [Act.put, List.getElem_toArray, List.getElem_cons_succ, List.getElem_cons_zero, List.setIfInBounds_toArray, List.set_cons_zero, List.set_cons_succ]
  refine wpAnyH_take (i := 8) (v := ?_) rfl (by kernel_rfl) (by kernel_rfl) (by kernel_rfl) (fun _ _ _ h => h) (Or.inl ⟨by rfl, ?_⟩) hHeld ?_
  rotate_left
  · intro wq hSw
    have q0 := hSw
    go_simp
    all_goals with_reducible rfl
  try simp only [Act.put, List.getElem_toArray, List.getElem_cons_succ, List.getElem_cons_zero, List.setIfInBounds_toArray, List.set_cons_zero, List.set_cons_succ]
  refine wpAnyH_take (i := 9) (v := ?_) rfl (by kernel_rfl) (by kernel_rfl) (by kernel_rfl) (fun _ _ _ h => h) (Or.inl ⟨by rfl, ?_⟩) hHeld ?_
  rotate_left
  · intro wq hSw
    go_simp
    all_goals with_reducible rfl
  try simp only [Act.put, List.getElem_toArray, List.getElem_cons_succ, List.getElem_cons_zero, List.setIfInBounds_toArray, List.set_cons_zero, List.set_cons_succ]
  refine wpAnyH_take (i := 10) (v := ?_) rfl (by kernel_rfl) (by kernel_rfl) (by kernel_rfl) (fun _ _ _ h => h) (Or.inl ⟨by rfl, ?_⟩) hHeld ?_
  rotate_left
  · intro wq hSw
    go_simp
    all_goals with_reducible rfl
  try simp only [Act.put, List.getElem_toArray, List.getElem_cons_succ, List.getElem_cons_zero, List.setIfInBounds_toArray, List.set_cons_zero, List.set_cons_succ]
  refine wpAnyH_take (i := 12) (v := ?_) rfl (by kernel_rfl) (by kernel_rfl) (by kernel_rfl) (fun _ _ _ h => h) (Or.inl ⟨by rfl, ?_⟩) hHeld ?_
  rotate_left
  · intro wq hSw
    go_simp
    all_goals with_reducible rfl
  try simp only [Act.put, List.getElem_toArray, List.getElem_cons_succ, List.getElem_cons_zero, List.setIfInBounds_toArray, List.set_cons_zero, List.set_cons_succ]
  refine wpAnyH_ready (rs := [11]) (by kernel_rfl) (by simp) ?_
  refine AllReadyH.cons rfl (fun K hK => ?_) AllReadyH.nil
  go_simp
  refine hK.out _ _ hHeld (fun hHeld => ?_)
  clear hK K
  try simp only [Act.put, List.getElem_toArray, List.getElem_cons_succ, List.getElem_cons_zero, List.setIfInBounds_toArray, List.set_cons_zero, List.set_cons_succ]
  refine wpAnyH_ready (rs := [13]) (by kernel_rfl) (by simp) ?_
  refine AllReadyH.cons rfl (fun K hK => ?_) AllReadyH.nil
  go_simp
  refine (vscale_any _ nc _ i1 _ r.xs _ ((HBY.out.keep (Nat.le_refl _) K1.out).keep K1.out.size (Keep.drew (Keep.refl _))) K1.out.size (by have := HKN.out.2.2; omega) hi2).mono ?_
  rintro e w2 ⟨A2, n2, q2, rfl, o2, k2⟩
  have k02 : Keep w1 w2 := (Keep.drew (Keep.refl w1)).trans k2
  have H2 := Lib.hid (H1.out.later k02)
  have O2 : Hid (Own w2 w1.heap.size 5 A2 n2 q2 (vScale nc r.xs i1)) := o2
  obtain ⟨c0'', _, c2'', _⟩ := H2.out.cells
  obtain ⟨g', eg, _, _, _, gf'', gc''⟩ := H2.out.place (by omega)
  injection eg with eg
  injection eg with eg
  subst eg
  have ck'' := gc'' k r HR.out.1
  have gfk := gf'' k
  rw [HR.out.2] at ck''
  clear k02 k2 o2 gc'' gf''
  refine hK.out _ _ c0'' (fun hHeld => ?_)
  clear hK K
  try simp only [Act.put, List.getElem_toArray, List.getElem_cons_succ, List.getElem_cons_zero, List.setIfInBounds_toArray, List.set_cons_zero, List.set_cons_succ]
  refine wpAnyH_take (i := 14) (v := ?_) rfl (by kernel_rfl) (by kernel_rfl) (by kernel_rfl) (fun _ _ _ h => h) (Or.inl ⟨by rfl, ?_⟩) hHeld ?_
  rotate_left
  · intro wq hSw
    go_simp
    all_goals with_reducible rfl
  try simp only [Act.put, List.getElem_toArray, List.getElem_cons_succ, List.getElem_cons_zero, List.setIfInBounds_toArray, List.set_cons_zero, List.set_cons_succ]
  refine wpAnyH_ready (rs := [15]) (by kernel_rfl) (by simp) ?_
  refine AllReadyH.cons rfl (fun K hK => ?_) AllReadyH.nil
  go_simp
  have hlen := O2.out.length
  have hn2 : n2 = nc := by rw [← hlen]; exact tab_length _ _
  have H3 := Lib.hid (H2.out.putOwn (r := ⟨A2, n2, q2, vScale nc r.xs i1⟩) k (q + 1) (by omega) HKN.out.1 hn2 (O2.out.lower H1.out.hb.2.2) (Or.inr ⟨rfl, HKN.out.2.1⟩))
  clear hlen hn2
  generalize w2.setCell ⟨g, k, none⟩ (.slice A2 n2 q2) = w3 at *
  obtain ⟨c03, _, _, _⟩ := H3.out.cells
  obtain ⟨g', eg, _, _, _, gf3, gc3⟩ := H3.out.place (by omega)
  injection eg with eg
  injection eg with eg
  subst eg
  refine hK.out _ _ c03 (fun hHeld => ?_)
  clear hK K
  try simp only [Act.put, List.getElem_toArray, List.getElem_cons_succ, List.getElem_cons_zero, List.setIfInBounds_toArray, List.set_cons_zero, List.set_cons_succ]
  refine wpAnyH_done (by kernel_rfl) ?_ _
  refine NoPanic.normal ?_
  clear hHeld
  go_wp2_with fail
  go_end0
  exact ⟨rfl, _, H3.out, by show vScale nc r.xs i1 = _; rw [HI.out]⟩
set_option maxRecDepth 100000 in
set_option maxHeartbeats 1000000 in
theorem mwipe_any {W w : World} {b : Nat} {A : Option Addr} {n cap nc B d col q k : Nat} {rs : List RowV} {r p : RowV} (h : Wk W w b A n cap nc B d col q rs) (hk : k < n) (hd : d < n) (hkd : k ≠ d) (hr : rs[k]? = some r) (hp : rs[d]? = some p) (hcol : col < nc) (hn : n ≤ 1000) (hnc : nc ≤ 2000) :
    Calls Tryz.prog 145 #[.pointer (some ⟨b, 0, none⟩), .int .i64 (k : Int)] w fun e w' => e = .returned (.tuple #[]) ∧ ∃ r', Wk W w' b A n cap nc B d col q (rs.set k r') ∧ r'.xs = vAddS nc r.xs p.xs (r.xs.getD col 0) := by
  obtain ⟨r1, hr1, hrn, hby⟩ := h.row hk
  obtain rfl : r = r1 := Option.some.inj (hr.symm.trans hr1)
  obtain ⟨p1, hp1, hpn, hbp⟩ := h.row hd
  obtain rfl : p = p1 := Option.some.inj (hp.symm.trans hp1)
  obtain ⟨g, rfl, g1, g2, g3, gf, gc⟩ := h.place (by omega)
  obtain ⟨c0, c1, c2, _⟩ := h.cells
  have ck := gc k r hr
  rw [hrn] at ck
  obtain ⟨b3, o3, e3, hb3, cx⟩ := hby.at_ hcol
  have hx := hby.all.getD col
  have HBY := Lib.hid hby
  have HBP := Lib.hid hbp
  have H := Lib.hid h
  have HR := Lib.hid (And.intro hr (And.intro hrn (And.intro hp hpn)))
  obtain ⟨x, hxe⟩ : ∃ x, r.xs.getD col 0 = x := ⟨_, rfl⟩
  rw [hxe] at hx cx ⊢
  have d1 : (0 : Int) ≤ (k : Int) := Int.natCast_nonneg _
  have d2 : (k : Int) < (n : Int) := by omega
  have d3 : (0 : Int) ≤ (col : Int) := Int.natCast_nonneg _
  have d4 : (col : Int) < (nc : Int) := by omega
  have d5 : (0 : Int) ≤ (d : Int) := Int.natCast_nonneg _
  have d6 : (d : Int) < (n : Int) := by omega
  have HKN : Hid (k < n ∧ k ≠ d ∧ nc ≤ 2000) := ⟨hk, hkd, hnc⟩
  rw [e3] at ck
  have HE3 := Lib.hid e3
  clear h hby hr hr1 hrn gc e3 hb3 hxe hp hp1 hpn hbp hkd
  by_cases hx0 : x = 0
  · subst hx0
    have HS : Hid (rs.set k r = rs) := by
      show _ = _
      have hkl : k < rs.length := by rw [H.out.length]; exact HKN.out.1
      have e : rs[k] = r := by have := HR.out.1; rw [List.getElem?_eq_getElem hkl] at this; exact Option.some.inj this
      rw [← e, List.set_getElem_self]
    go_enter Tryz.func145, Tryz.ntmps145
    go_wp2_with fail
    go_quiet (fail)
    go_wp2_with fail
    go_end0
    refine ⟨rfl, r, ?_, (vAddS_nought nc r.xs p.xs HBY.out.length).symm⟩
    rw [HS.out]
    exact H.out.later ((Keep.refl w).drewN _)
  · have b1 : ((x : Int) != 0) = true := by rw [bne_iff_ne]; omega
    go_enter Tryz.func145, Tryz.ntmps145
    go_wp2_with fail
    go_quiet (fail)
    have K1 : Hid (Keep w (w.drewN nq)) := (Keep.refl w).drewN nq
    generalize w.drewN nq = w1 at *
    have H1 := Lib.hid (H.out.later K1.out)
    obtain ⟨c0', c1', _, _⟩ := H1.out.cells
    obtain ⟨g', eg, _, _, _, gf', gc'⟩ := H1.out.place (by omega)
    injection eg with eg
    injection eg with eg
    subst eg
    have ck' := gc' k r HR.out.1
    have cd' := gc' d p HR.out.2.2.1
    rw [HR.out.2.1] at ck'
    rw [HR.out.2.2.2] at cd'
    clear gc' c0 c1 c2 ck cx gf
    go_wp2_with fail
    refine wp_region_noPanic ?_
    refine wp_region_held_drew (S := fun wz => wz.cell? ⟨b, 0, none⟩ = some (.slice (some ⟨g, 0, none⟩) n cap) ∧ wz.cell? ⟨b, 1, none⟩ = some (.int .i64 (d : Int)) ∧ wz.cell? ⟨g, d, none⟩ = some (.slice p.A nc p.c)) (by kernel_rfl) ⟨c0', c1', cd'⟩ (fun hHeld => ?_)
    refine wpAnyH_take (i := 0) (v := ?_) rfl (by kernel_rfl) (by kernel_rfl) (by kernel_rfl) (fun _ _ _ h => h) (Or.inl ⟨by rfl, ?_⟩) hHeld ?_
    rotate_left
    · intro wq hSw
      go_simp
      all_goals with_reducible rfl
    try simp only [Act.put, List.getElem_toArray, List.getElem_cons_succ, List.getElem_cons_zero, List.setIfInBounds_toArray, List.set_cons_zero, List.set_cons_succ]
    refine wpAnyH_take (i := 1) (v := ?_) rfl (by kernel_rfl) (by kernel_rfl) (by kernel_rfl) (fun _ _ _ h => h) (Or.inl ⟨by rfl, ?_⟩) hHeld ?_
    rotate_left
    · intro wq hSw
      go_simp
      all_goals with_reducible rfl
    try simp only [Act.put, List.getElem_toArray, List.getElem_cons_succ, List.getElem_cons_zero, List.setIfInBounds_toArray, List.set_cons_zero, List.set_cons_succ]
    refine wpAnyH_take (i := 2) (v := ?_) rfl (by kernel_rfl) (by kernel_rfl) (by kernel_rfl) (fun _ _ _ h => h) (Or.inl ⟨by rfl, ?_⟩) hHeld ?_
    rotate_left
    · intro wq hSw
      go_simp
      all_goals with_reducible rfl
    try simp only [Act.put, List.getElem_toArray, List.getElem_cons_succ, List.getElem_cons_zero, List.setIfInBounds_toArray, List.set_cons_zero, List.set_cons_succ]
    refine wpAnyH_take (i := 3) (v := ?_) rfl (by kernel_rfl) (by kernel_rfl) (by kernel_rfl) (fun _ _ _ h => h) (Or.inl ⟨by rfl, ?_⟩) hHeld ?_
    rotate_left
    · intro wq hSw
      have q0 := hSw.1
      go_simp
      all_goals with_reducible rfl
    try simp only [Act.put, List.getElem_toArray, List.getElem_cons_succ, List.getElem_cons_zero, List.setIfInBounds_toArray, List.set_cons_zero, List.set_cons_succ]
    refine wpAnyH_take (i := 4) (v := ?_) rfl (by kernel_rfl) (by kernel_rfl) (by kernel_rfl) (fun _ _ _ h => h) (Or.inl ⟨by rfl, ?_⟩) hHeld ?_
    rotate_left
    · intro wq hSw
      go_simp
      all_goals with_reducible rfl
    try simp only [Act.put, List.getElem_toArray, List.getElem_cons_succ, List.getElem_cons_zero, List.setIfInBounds_toArray, List.set_cons_zero, List.set_cons_succ]
    refine wpAnyH_take (i := 5) (v := ?_) rfl (by kernel_rfl) (by kernel_rfl) (by kernel_rfl) (fun _ _ _ h => h) (Or.inl ⟨by rfl, ?_⟩) hHeld ?_
    rotate_left
    · intro wq hSw
      go_simp
      all_goals with_reducible rfl
    try simp only [Act.put, List.getElem_toArray, List.getElem_cons_succ, List.getElem_cons_zero, List.setIfInBounds_toArray, List.set_cons_zero, List.set_cons_succ]
    refine wpAnyH_take (i := 6) (v := ?_) rfl (by kernel_rfl) (by kernel_rfl) (by kernel_rfl) (fun _ _ _ h => h) (Or.inl ⟨by rfl, ?_⟩) hHeld ?_
    rotate_left
    · intro wq hSw
      go_simp
      all_goals with_reducible rfl
    try simp only [Act.put, List.getElem_toArray, List.getElem_cons_succ, List.getElem_cons_zero, List.setIfInBounds_toArray, List.set_cons_zero, List.set_cons_succ]
    refine wpAnyH_take (i := 7) (v := ?_) rfl (by kernel_rfl) (by kernel_rfl) (by kernel_rfl) (fun _ _ _ h => h) (Or.inl ⟨by rfl, ?_⟩) hHeld ?_
    rotate_left
    · intro wq hSw
      go_simp
      all_goals with_reducible rfl
    try simp only [Act.put, List.getElem_toArray, List.getElem_cons_succ, List.getElem_cons_zero, List.setIfInBounds_toArray, List.set_cons_zero, List.set_cons_succ]
    refine wpAnyH_take (i := 8) (v := ?_) rfl (by kernel_rfl) (by kernel_rfl) (by kernel_rfl) (fun _ _ _ h => h) (Or.inl ⟨by rfl, ?_⟩) hHeld ?_
    rotate_left
    · intro wq hSw
      have q0 := hSw.1
      go_simp
      all_goals with_reducible rfl
    try simp only [Act.put, List.getElem_toArray, List.getElem_cons_succ, List.getElem_cons_zero, List.setIfInBounds_toArray, List.set_cons_zero, List.set_cons_succ]
    refine wpAnyH_take (i := 9) (v := ?_) rfl (by kernel_rfl) (by kernel_rfl) (by kernel_rfl) (fun _ _ _ h => h) (Or.inl ⟨by rfl, ?_⟩) hHeld ?_
    rotate_left
    · intro wq hSw
      go_simp
      all_goals with_reducible rfl
    try simp only [Act.put, List.getElem_toArray, List.getElem_cons_succ, List.getElem_cons_zero, List.setIfInBounds_toArray, List.set_cons_zero, List.set_cons_succ]
    refine wpAnyH_take (i := 10) (v := ?_) rfl (by kernel_rfl) (by kernel_rfl) (by kernel_rfl) (fun _ _ _ h => h) (Or.inl ⟨by rfl, ?_⟩) hHeld ?_
    rotate_left
    · intro wq hSw
      go_simp
      all_goals with_reducible rfl
    try simp only [Act.put, List.getElem_toArray, List.getElem_cons_succ, List.getElem_cons_zero, List.setIfInBounds_toArray, List.set_cons_zero, List.set_cons_succ]
    refine wpAnyH_take (i := 12) (v := ?_) rfl (by kernel_rfl) (by kernel_rfl) (by kernel_rfl) (fun _ _ _ h => h) (Or.inl ⟨by rfl, ?_⟩) hHeld ?_
    rotate_left
    · intro wq hSw
      go_simp
      all_goals with_reducible rfl
    try simp only [Act.put, List.getElem_toArray, List.getElem_cons_succ, List.getElem_cons_zero, List.setIfInBounds_toArray, List.set_cons_zero, List.set_cons_succ]
    refine wpAnyH_take (i := 13) (v := ?_) rfl (by kernel_rfl) (by kernel_rfl) (by kernel_rfl) (fun _ _ _ h => h) (Or.inl ⟨by rfl, ?_⟩) hHeld ?_
    rotate_left
    · intro wq hSw
      go_simp
      all_goals with_reducible rfl
    try simp only [Act.put, List.getElem_toArray, List.getElem_cons_succ, List.getElem_cons_zero, List.setIfInBounds_toArray, List.set_cons_zero, List.set_cons_succ]
    refine wpAnyH_take (i := 14) (v := ?_) rfl (by kernel_rfl) (by kernel_rfl) (by kernel_rfl) (fun _ _ _ h => h) (Or.inl ⟨by rfl, ?_⟩) hHeld ?_
    rotate_left
    · intro wq hSw
      go_simp
      all_goals with_reducible rfl
    try simp only [Act.put, List.getElem_toArray, List.getElem_cons_succ, List.getElem_cons_zero, List.setIfInBounds_toArray, List.set_cons_zero, List.set_cons_succ]
    refine wpAnyH_take (i := 15) (v := ?_) rfl (by kernel_rfl) (by kernel_rfl) (by kernel_rfl) (fun _ _ _ h => h) (Or.inl ⟨by rfl, ?_⟩) hHeld ?_
    rotate_left
    · intro wq hSw
      have q0 := hSw.1
      go_simp
      all_goals with_reducible rfl
    try simp only [Act.put, List.getElem_toArray, List.getElem_cons_succ, List.getElem_cons_zero, List.setIfInBounds_toArray, List.set_cons_zero, List.set_cons_succ]
    refine wpAnyH_take (i := 16) (v := ?_) rfl (by kernel_rfl) (by kernel_rfl) (by kernel_rfl) (fun _ _ _ h => h) (Or.inl ⟨by rfl, ?_⟩) hHeld ?_
    rotate_left
    · intro wq hSw
      go_simp
      all_goals with_reducible rfl
    try simp only [Act.put, List.getElem_toArray, List.getElem_cons_succ, List.getElem_cons_zero, List.setIfInBounds_toArray, List.set_cons_zero, List.set_cons_succ]
    refine wpAnyH_take (i := 17) (v := ?_) rfl (by kernel_rfl) (by kernel_rfl) (by kernel_rfl) (fun _ _ _ h => h) (Or.inl ⟨by rfl, ?_⟩) hHeld ?_
    rotate_left
    · intro wq hSw
      go_simp
      all_goals with_reducible rfl
    try simp only [Act.put, List.getElem_toArray, List.getElem_cons_succ, List.getElem_cons_zero, List.setIfInBounds_toArray, List.set_cons_zero, List.set_cons_succ]
    refine wpAnyH_take (i := 18) (v := ?_) rfl (by kernel_rfl) (by kernel_rfl) (by kernel_rfl) (fun _ _ _ h => h) (Or.inl ⟨by rfl, ?_⟩) hHeld ?_
    rotate_left
    · intro wq hSw
      go_simp
      all_goals with_reducible rfl
    try simp only [Act.put, List.getElem_toArray, List.getElem_cons_succ, List.getElem_cons_zero, List.setIfInBounds_toArray, List.set_cons_zero, List.set_cons_succ]
    refine wpAnyH_take (i := 19) (v := ?_) rfl (by kernel_rfl) (by kernel_rfl) (by kernel_rfl) (fun _ _ _ h => h) (Or.inl ⟨by rfl, ?_⟩) hHeld ?_
    rotate_left
    · intro wq hSw
      have q0 := hSw.2.1
      go_simp
      all_goals with_reducible rfl
    try simp only [Act.put, List.getElem_toArray, List.getElem_cons_succ, List.getElem_cons_zero, List.setIfInBounds_toArray, List.set_cons_zero, List.set_cons_succ]
    refine wpAnyH_take (i := 20) (v := ?_) rfl (by kernel_rfl) (by kernel_rfl) (by kernel_rfl) (fun _ _ _ h => h) (Or.inl ⟨by rfl, ?_⟩) hHeld ?_
    rotate_left
    · intro wq hSw
      go_simp
      all_goals with_reducible rfl
    try simp only [Act.put, List.getElem_toArray, List.getElem_cons_succ, List.getElem_cons_zero, List.setIfInBounds_toArray, List.set_cons_zero, List.set_cons_succ]
    refine wpAnyH_take (i := 21) (v := ?_) rfl (by kernel_rfl) (by kernel_rfl) (by kernel_rfl) (fun _ _ _ h => h) (Or.inl ⟨by rfl, ?_⟩) hHeld ?_
    rotate_left
    · intro wq hSw
      have q0 := hSw.2.2
      go_simp
      all_goals with_reducible rfl
    try simp only [Act.put, List.getElem_toArray, List.getElem_cons_succ, List.getElem_cons_zero, List.setIfInBounds_toArray, List.set_cons_zero, List.set_cons_succ]
    refine wpAnyH_take (i := 22) (v := ?_) rfl (by kernel_rfl) (by kernel_rfl) (by kernel_rfl) (fun _ _ _ h => h) (Or.inl ⟨by rfl, ?_⟩) hHeld ?_
    rotate_left
    · intro wq hSw
      go_simp
      all_goals with_reducible rfl
    try simp only [Act.put, List.getElem_toArray, List.getElem_cons_succ, List.getElem_cons_zero, List.setIfInBounds_toArray, List.set_cons_zero, List.set_cons_succ]
    refine wpAnyH_ready (rs := [11]) (by kernel_rfl) (by simp) ?_
    refine AllReadyH.cons rfl (fun K hK => ?_) AllReadyH.nil
    go_simp
    refine hK.out _ _ hHeld (fun hHeld => ?_)
    clear hK K
    try simp only [Act.put, List.getElem_toArray, List.getElem_cons_succ, List.getElem_cons_zero, List.setIfInBounds_toArray, List.set_cons_zero, List.set_cons_succ]
    refine wpAnyH_ready (rs := [23]) (by kernel_rfl) (by simp) ?_
    refine AllReadyH.cons rfl (fun K hK => ?_) AllReadyH.nil
    go_simp
    refine (vaddS_any _ _ nc _ _ x _ _ r.xs p.xs _ ((HBY.out.keep (Nat.le_refl _) K1.out).keep K1.out.size (Keep.drew (Keep.refl _))) ((HBP.out.keep (Nat.le_refl _) K1.out).keep K1.out.size (Keep.drew (Keep.refl _))) K1.out.size K1.out.size (by have := HKN.out.2.2; omega) hx).mono ?_
    rintro e w2 ⟨A2, n2, q2, rfl, o2, k2⟩
    have k02 : Keep w1 w2 := (Keep.drew (Keep.refl w1)).trans k2
    have H2 := Lib.hid (H1.out.later k02)
    have O2 : Hid (Own w2 w1.heap.size 5 A2 n2 q2 (vAddS nc r.xs p.xs x)) := o2
    obtain ⟨c0'', c1'', _, _⟩ := H2.out.cells
    obtain ⟨g', eg, _, _, _, gf'', gc''⟩ := H2.out.place (by omega)
    injection eg with eg
    injection eg with eg
    subst eg
    have ck'' := gc'' k r HR.out.1
    have cd'' := gc'' d p HR.out.2.2.1
    have gfk := gf'' k
    rw [HR.out.2.1] at ck''
    rw [HR.out.2.2.2] at cd''
    clear k02 k2 o2 gc'' gf''
    refine hK.out _ _ ⟨c0'', c1'', cd''⟩ (fun hHeld => ?_)
    clear hK K
    try simp only [Act.put, List.getElem_toArray, List.getElem_cons_succ, List.getElem_cons_zero, List.setIfInBounds_toArray, List.set_cons_zero, List.set_cons_succ]
    refine wpAnyH_take (i := 24) (v := ?_) rfl (by kernel_rfl) (by kernel_rfl) (by kernel_rfl) (fun _ _ _ h => h) (Or.inl ⟨by rfl, ?_⟩) hHeld ?_
    rotate_left
    · intro wq hSw
      go_simp
      all_goals with_reducible rfl
    try simp only [Act.put, List.getElem_toArray, List.getElem_cons_succ, List.getElem_cons_zero, List.setIfInBounds_toArray, List.set_cons_zero, List.set_cons_succ]
    refine wpAnyH_take (i := 25) (v := ?_) rfl (by kernel_rfl) (by kernel_rfl) (by kernel_rfl) (fun _ _ _ h => h) (Or.inl ⟨by rfl, ?_⟩) hHeld ?_
    rotate_left
    · intro wq hSw
      go_simp
      all_goals with_reducible rfl
    try simp only [Act.put, List.getElem_toArray, List.getElem_cons_succ, List.getElem_cons_zero, List.setIfInBounds_toArray, List.set_cons_zero, List.set_cons_succ]
    refine wpAnyH_take (i := 26) (v := ?_) rfl (by kernel_rfl) (by kernel_rfl) (by kernel_rfl) (fun _ _ _ h => h) (Or.inl ⟨by rfl, ?_⟩) hHeld ?_
    rotate_left
    · intro wq hSw
      go_simp
      all_goals with_reducible rfl
    try simp only [Act.put, List.getElem_toArray, List.getElem_cons_succ, List.getElem_cons_zero, List.setIfInBounds_toArray, List.set_cons_zero, List.set_cons_succ]
    refine wpAnyH_take (i := 27) (v := ?_) rfl (by kernel_rfl) (by kernel_rfl) (by kernel_rfl) (fun _ _ _ h => h) (Or.inl ⟨by rfl, ?_⟩) hHeld ?_
    rotate_left
    · intro wq hSw
      go_simp
      all_goals with_reducible rfl
    try simp only [Act.put, List.getElem_toArray, List.getElem_cons_succ, List.getElem_cons_zero, List.setIfInBounds_toArray, List.set_cons_zero, List.set_cons_succ]
    refine wpAnyH_ready (rs := [28]) (by kernel_rfl) (by simp) ?_
    refine AllReadyH.cons rfl (fun K hK => ?_) AllReadyH.nil
    go_simp
    have hlen := O2.out.length
    have hn2 : n2 = nc := by rw [← hlen]; exact tab_length _ _
    have H3 := Lib.hid (H2.out.putOwn (r := ⟨A2, n2, q2, vAddS nc r.xs p.xs x⟩) k q (by omega) HKN.out.1 hn2 (O2.out.lower H1.out.hb.2.2) (Or.inl (Nat.le_refl _)))
    clear hlen hn2
    generalize w2.setCell ⟨g, k, none⟩ (.slice A2 n2 q2) = w3 at *
    obtain ⟨c03, c13, _, _⟩ := H3.out.cells
    obtain ⟨g', eg, _, _, _, gf3, gc3⟩ := H3.out.place (by omega)
    injection eg with eg
    injection eg with eg
    subst eg
    have cd3 := gc3 d p (by rw [List.getElem?_set_ne HKN.out.2.1]; exact HR.out.2.2.1)
    rw [HR.out.2.2.2] at cd3
    refine hK.out _ _ ⟨c03, c13, cd3⟩ (fun hHeld => ?_)
    clear hK K
    try simp only [Act.put, List.getElem_toArray, List.getElem_cons_succ, List.getElem_cons_zero, List.setIfInBounds_toArray, List.set_cons_zero, List.set_cons_succ]
    refine wpAnyH_done (by kernel_rfl) ?_ _
    refine NoPanic.normal ?_
    clear hHeld
    go_wp2_with fail
    go_end0
    exact ⟨rfl, _, H3.out, rfl⟩
end Go.Proofs.YtcjjhblgejkkeaaGreat
/- The landed code of layer 6: a row taken; a matrix reduced by columns. -/
namespace Go.Proofs.YtcjjhblgejkkeaaGreat
open Go.RowKit
set_option linter.unusedVariables false
set_option linter.unusedSimpArgs false
theorem rowsXs_some {rs : List RowV} {k : Nat} (h : k < rs.length) : ∃ r, rs[k]? = some r ∧ (rowsXs rs).getD k [] = r.xs := ⟨rs[k], List.getElem?_eq_getElem h, rowsXs_at (List.getElem?_eq_getElem h)⟩
theorem mwipes_any {W w : World} {b : Nat} {A : Option Addr} {n cap nc B d col q : Nat} {rs : List RowV} (h : Wk W w b A n cap nc B d col q rs) (a e : Nat) (ha : a ≤ e) (he : e ≤ n) (hd : d < n) (hda : d < a ∨ e ≤ d) (hcol : col < nc) (hn : n ≤ 1000) (hnc : nc ≤ 2000) :
    Calls Tryz.prog 143 #[.int .i64 (a : Int), .int .i64 (e : Int), .func (.func 145) #[.pointer (some ⟨b, 0, none⟩)] #[]] w fun x w' => x = .returned (.tuple #[]) ∧ ∃ rs', Wk W w' b A n cap nc B d col q rs' ∧ rowsXs rs' = wipeL nc (rowsXs rs) d col a e := by
  refine meach_any (fun i wr => ∃ rs', Wk W wr b A n cap nc B d col q rs' ∧ rowsXs rs' = wipeL nc (rowsXs rs) d col a i) 145 _ a e w ha (by omega) (enters_at Tryz.func145 (by kernel_rfl) rfl) ⟨rs, h, (wipeL_start _ _ _ _ _).symm⟩ fun i wr h1 h2 hR => ?_
  obtain ⟨rs', hW, hx⟩ := hR
  obtain ⟨r, hr, hxr⟩ := rowsXs_some (rs := rs') (k := i) (by rw [hW.length]; omega)
  obtain ⟨p, hp, hxp⟩ := rowsXs_some (rs := rs') (k := d) (by rw [hW.length]; omega)
  refine (mwipe_any hW (by omega) hd (by omega) hr hp hcol hn hnc).mono fun x w' hh => ?_
  obtain ⟨he, r', hW', hx'⟩ := hh
  refine ⟨he, _, hW', ?_⟩
  rw [rowsXs_set, hx', ← hxr, ← hxp, hx]
  have hl := h.len
  exact wipeL_succ nc (rowsXs rs) d col a i h1 (by omega) (by omega) (by omega)
theorem mdivides_any {W w : World} {b : Nat} {A : Option Addr} {n cap nc B d col : Nat} {rs : List RowV} (h : Wk W w b A n cap nc B d col d rs) (hd : d < n) (hcol : col < nc) (hx0 : ((rowsXs rs).getD d []).getD col 0 ≠ 0) (hn : n ≤ 1000) (hnc : nc ≤ 2000) :
    Calls Tryz.prog 143 #[.int .i64 (d : Int), .int .i64 ((d : Int) + 1), .func (.func 144) #[.pointer (some ⟨b, 0, none⟩)] #[]] w fun x w' => x = .returned (.tuple #[]) ∧ ∃ rs', Wk W w' b A n cap nc B d col (d + 1) rs' ∧ rowsXs rs' = divL nc (rowsXs rs) d col := by
  refine (meach_any (fun i wr => ∃ rs', Wk W wr b A n cap nc B d col i rs' ∧ rowsXs rs' = if i = d then rowsXs rs else divL nc (rowsXs rs) d col) 144 _ d (d + 1) w (by omega) (by omega) (enters_at Tryz.func144 (by kernel_rfl) rfl) ⟨rs, h, (if_pos rfl).symm⟩ fun i wr h1 h2 hR => ?_).mono fun x w' hh => ⟨hh.1, ?_⟩
  · obtain rfl : i = d := by omega
    obtain ⟨rs', hW, hx⟩ := hR
    rw [if_pos rfl] at hx
    obtain ⟨r, hr, hxr⟩ := rowsXs_some (rs := rs') (k := i) (by rw [hW.length]; omega)
    rw [← hx, hxr] at hx0
    refine (mdivide_any hW hd rfl hr hcol hx0 hn hnc).mono fun x w' hh => ?_
    obtain ⟨he, r', hW', hx'⟩ := hh
    refine ⟨he, _, hW', ?_⟩
    rw [if_neg (by omega), rowsXs_set, hx', divL, ← hx, hxr]
  · obtain ⟨rs', hW, hx⟩ := hh.2
    rw [if_neg (by omega)] at hx
    exact ⟨rs', hW, hx⟩
set_option maxRecDepth 100000 in
set_option maxHeartbeats 1000000 in
theorem mtake_any {W w : World} {b : Nat} {A : Option Addr} {n cap nc B d col f : Nat} {rs : List RowV} (h : Wk W w b A n cap nc B d col d rs) (hd : d ≤ f) (hf : f < n) (hcol : col < nc) (hx0 : ((rowsXs rs).getD f []).getD col 0 ≠ 0) (hn : n ≤ 1000) (hnc : nc ≤ 2000) :
    Calls Tryz.prog 140 #[.pointer (some ⟨b, 0, none⟩), .int .i64 (f : Int)] w fun e w' => e = .returned (.tuple #[]) ∧ ∃ rs', Wk W w' b A n cap nc B (d + 1) col (d + 1) rs' ∧ rowsXs rs' = takeL nc (rowsXs rs) d f col := by
  obtain ⟨rd, hrd, hxd⟩ := rowsXs_some (rs := rs) (k := d) (by rw [h.length]; omega)
  obtain ⟨rf, hrf, hxf⟩ := rowsXs_some (rs := rs) (k := f) (by rw [h.length]; omega)
  have H0 := h.later ((Keep.refl w).drew)
  obtain ⟨g, rfl, g1, g2, g3, gf, gc⟩ := h.place (by omega)
  obtain ⟨g', eg, _, _, _, gf0, gc0⟩ := H0.place (by omega)
  injection eg with eg
  injection eg with eg
  subst eg
  obtain ⟨c0, c1, _, _⟩ := H0.cells
  have cd := gc0 d rd hrd
  have cf := gc0 f rf hrf
  have gfd := gf0 d
  have hlen := h.length
  have hnd : rd.n = nc ∧ rf.n = nc := ⟨(h.rows rd (List.mem_of_getElem? hrd)).1, (h.rows rf (List.mem_of_getElem? hrf)).1⟩
  have hin : ∀ r ∈ rs, r.n = nc ∧ LiesIn w.drew (fun k => k < W.heap.size ∨ (B ≤ k ∧ k < w.drew.heap.size)) r := H0.rows
  have h1 := H0.put d d (r := rf) (by omega) hnd.2 (hin rf (List.mem_of_getElem? hrf)).2 fun i r' hi hr' => H0.done i r' hi (by rw [List.getElem?_set_ne (by omega)] at hr'; exact hr')
  have h2 := h1.put f d (r := rd) (by omega) hnd.1 ((by
    have ht : Turned (fun b => b = g) w.drew (w.drew.setCell ⟨g, d, none⟩ (.slice rf.A rf.n rf.c)) := Turned.set (F := fun b => b = g) _ _ _ rfl
    have hs : (w.drew.setCell ⟨g, d, none⟩ (.slice rf.A rf.n rf.c)).heap.size = w.drew.heap.size := by simp [World.setCell]
    exact ((hin rd (List.mem_of_getElem? hrd)).2.turned ht fun j hj e => by omega).mono fun j hj => by rw [hs]; exact hj)) fun i r' hi hr' => h1.done i r' hi (by rw [List.getElem?_set_ne (by omega)] at hr'; exact hr')
  have HX : Hid (rowsXs ((rs.set d rf).set f rd) = swapL (rowsXs rs) d f) := by
    show _ = _
    rw [rowsXs_set, rowsXs_set, swapL, hxd, hxf]
  obtain ⟨c01, c11, _, _⟩ := h1.cells
  obtain ⟨g', eg, _, _, _, gf1, gc1⟩ := h1.place (by omega)
  injection eg with eg
  injection eg with eg
  subst eg
  have hfl : f < (rs.set d rf).length := by rw [List.length_set, hlen]; exact hf
  have cf1 := gc1 f _ (List.getElem?_eq_getElem hfl)
  have gff1 := gf1 f
  obtain ⟨c02, c12, _, _⟩ := h2.cells
  generalize (rs.set d rf)[f] = rf1 at cf1
  have H1 := Lib.hid h1
  have H2 := Lib.hid h2
  have d1 : (0 : Int) ≤ (d : Int) := Int.natCast_nonneg _
  have d2 : (d : Int) < (n : Int) := by omega
  have d3 : (0 : Int) ≤ (f : Int) := Int.natCast_nonneg _
  have d4 : (f : Int) < (n : Int) := by omega
  have HL : Hid ((rowsXs rs).length = n ∧ d ≤ f ∧ f < n ∧ col < nc ∧ nc ≤ 2000 ∧ n ≤ 1000) := ⟨by rw [rowsXs_len, hlen], hd, hf, hcol, hnc, hn⟩
  have HX0 : Hid (((swapL (rowsXs rs) d f).getD d []).getD col 0 ≠ 0) := by
    show _ ≠ _
    rw [swapL_at _ d f d (by rw [rowsXs_len, hlen]; omega) (by rw [rowsXs_len, hlen]; omega)]
    split
    · next e => rw [← e] at hx0; exact hx0
    · rw [if_pos rfl]; exact hx0
  clear h h1 h2 H0 hin hrd hrf gc gf gc0 gf0 hnd hlen hxd hxf hx0 gc1 gf1 hfl
  obtain ⟨wd, hwd⟩ : ∃ wd, w.drew = wd := ⟨_, rfl⟩
  rw [hwd] at c0 c1 cd cf gfd c01 c11 cf1 gff1 c02 c12 H1 H2
  go_enter Tryz.func140, Tryz.ntmps140
  go_wp2_with fail
  go_upto_region 0 with fail
  go_cut [] (fun wx => ∃ rs', Wk W wx b (some ⟨g, 0, none⟩) n cap nc B d col d rs' ∧ rowsXs rs' = swapL (rowsXs rs) d f)
  case first =>
    refine wp_region_noPanic ?_
    refine wp_region_held_drew (S := fun wz => wz.cell? ⟨b, 0, none⟩ = some (.slice (some ⟨g, 0, none⟩) n cap) ∧ wz.cell? ⟨b, 1, none⟩ = some (.int .i64 (d : Int))) (by kernel_rfl) (by show (w.drew.cell? _ = _ ∧ w.drew.cell? _ = _); rw [hwd]; exact ⟨c0, c1⟩) (fun hHeld => ?_)
    rw [hwd] at hHeld ⊢
    clear hwd
    refine wpAnyH_take (i := 0) (v := ?_) rfl (by kernel_rfl) (by kernel_rfl) (by kernel_rfl) (fun _ _ _ h => h) (Or.inl ⟨by rfl, ?_⟩) hHeld ?_
    rotate_left
    · intro wq hSw
      go_simp
      all_goals with_reducible rfl
    try simp only [Act.put, List.getElem_toArray, List.getElem_cons_succ, List.getElem_cons_zero, List.setIfInBounds_toArray, List.set_cons_zero, List.set_cons_succ]
    refine wpAnyH_take (i := 1) (v := ?_) rfl (by kernel_rfl) (by kernel_rfl) (by kernel_rfl) (fun _ _ _ h => h) (Or.inl ⟨by rfl, ?_⟩) hHeld ?_
    rotate_left
    · intro wq hSw
      go_simp
      all_goals with_reducible rfl
    try simp only [Act.put, List.getElem_toArray, List.getElem_cons_succ, List.getElem_cons_zero, List.setIfInBounds_toArray, List.set_cons_zero, List.set_cons_succ]
    refine wpAnyH_take (i := 2) (v := ?_) rfl (by kernel_rfl) (by kernel_rfl) (by kernel_rfl) (fun _ _ _ h => h) (Or.inl ⟨by rfl, ?_⟩) hHeld ?_
    rotate_left
    · intro wq hSw
      go_simp
      all_goals with_reducible rfl
    try simp only [Act.put, List.getElem_toArray, List.getElem_cons_succ, List.getElem_cons_zero, List.setIfInBounds_toArray, List.set_cons_zero, List.set_cons_succ]
    refine wpAnyH_take (i := 3) (v := ?_) rfl (by kernel_rfl) (by kernel_rfl) (by kernel_rfl) (fun _ _ _ h => h) (Or.inl ⟨by rfl, ?_⟩) hHeld ?_
    rotate_left
    · intro wq hSw
      have q0 := hSw.1
      go_simp
      all_goals with_reducible rfl
    try simp only [Act.put, List.getElem_toArray, List.getElem_cons_succ, List.getElem_cons_zero, List.setIfInBounds_toArray, List.set_cons_zero, List.set_cons_succ]
    refine wpAnyH_take (i := 4) (v := ?_) rfl (by kernel_rfl) (by kernel_rfl) (by kernel_rfl) (fun _ _ _ h => h) (Or.inl ⟨by rfl, ?_⟩) hHeld ?_
    rotate_left
    · intro wq hSw
      go_simp
      all_goals with_reducible rfl
    try simp only [Act.put, List.getElem_toArray, List.getElem_cons_succ, List.getElem_cons_zero, List.setIfInBounds_toArray, List.set_cons_zero, List.set_cons_succ]
    refine wpAnyH_take (i := 5) (v := ?_) rfl (by kernel_rfl) (by kernel_rfl) (by kernel_rfl) (fun _ _ _ h => h) (Or.inl ⟨by rfl, ?_⟩) hHeld ?_
    rotate_left
    · intro wq hSw
      go_simp
      all_goals with_reducible rfl
    try simp only [Act.put, List.getElem_toArray, List.getElem_cons_succ, List.getElem_cons_zero, List.setIfInBounds_toArray, List.set_cons_zero, List.set_cons_succ]
    refine wpAnyH_take (i := 6) (v := ?_) rfl (by kernel_rfl) (by kernel_rfl) (by kernel_rfl) (fun _ _ _ h => h) (Or.inl ⟨by rfl, ?_⟩) hHeld ?_
    rotate_left
    · intro wq hSw
      go_simp
      all_goals with_reducible rfl
    try simp only [Act.put, List.getElem_toArray, List.getElem_cons_succ, List.getElem_cons_zero, List.setIfInBounds_toArray, List.set_cons_zero, List.set_cons_succ]
    refine wpAnyH_take (i := 7) (v := ?_) rfl (by kernel_rfl) (by kernel_rfl) (by kernel_rfl) (fun _ _ _ h => h) (Or.inl ⟨by rfl, ?_⟩) hHeld ?_
    rotate_left
    · intro wq hSw
      have q0 := hSw.2
      go_simp
      all_goals with_reducible rfl
    try simp only [Act.put, List.getElem_toArray, List.getElem_cons_succ, List.getElem_cons_zero, List.setIfInBounds_toArray, List.set_cons_zero, List.set_cons_succ]
    refine wpAnyH_take (i := 8) (v := ?_) rfl (by kernel_rfl) (by kernel_rfl) (by kernel_rfl) (fun _ _ _ h => h) (Or.inl ⟨by rfl, ?_⟩) hHeld ?_
    rotate_left
    · intro wq hSw
      go_simp
      all_goals with_reducible rfl
    try simp only [Act.put, List.getElem_toArray, List.getElem_cons_succ, List.getElem_cons_zero, List.setIfInBounds_toArray, List.set_cons_zero, List.set_cons_succ]
    refine wpAnyH_take (i := 9) (v := ?_) rfl (by kernel_rfl) (by kernel_rfl) (by kernel_rfl) (fun _ _ _ h => h) (Or.inl ⟨by rfl, ?_⟩) hHeld ?_
    rotate_left
    · intro wq hSw
      go_simp
      all_goals with_reducible rfl
    try simp only [Act.put, List.getElem_toArray, List.getElem_cons_succ, List.getElem_cons_zero, List.setIfInBounds_toArray, List.set_cons_zero, List.set_cons_succ]
    refine wpAnyH_take (i := 10) (v := ?_) rfl (by kernel_rfl) (by kernel_rfl) (by kernel_rfl) (fun _ _ _ h => h) (Or.inl ⟨by rfl, ?_⟩) hHeld ?_
    rotate_left
    · intro wq hSw
      go_simp
      all_goals with_reducible rfl
    try simp only [Act.put, List.getElem_toArray, List.getElem_cons_succ, List.getElem_cons_zero, List.setIfInBounds_toArray, List.set_cons_zero, List.set_cons_succ]
    refine wpAnyH_take (i := 11) (v := ?_) rfl (by kernel_rfl) (by kernel_rfl) (by kernel_rfl) (fun _ _ _ h => h) (Or.inl ⟨by rfl, ?_⟩) hHeld ?_
    rotate_left
    · intro wq hSw
      have q0 := hSw.1
      go_simp
      all_goals with_reducible rfl
    try simp only [Act.put, List.getElem_toArray, List.getElem_cons_succ, List.getElem_cons_zero, List.setIfInBounds_toArray, List.set_cons_zero, List.set_cons_succ]
    refine wpAnyH_take (i := 12) (v := ?_) rfl (by kernel_rfl) (by kernel_rfl) (by kernel_rfl) (fun _ _ _ h => h) (Or.inl ⟨by rfl, ?_⟩) hHeld ?_
    rotate_left
    · intro wq hSw
      go_simp
      all_goals with_reducible rfl
    try simp only [Act.put, List.getElem_toArray, List.getElem_cons_succ, List.getElem_cons_zero, List.setIfInBounds_toArray, List.set_cons_zero, List.set_cons_succ]
    refine wpAnyH_take (i := 13) (v := ?_) rfl (by kernel_rfl) (by kernel_rfl) (by kernel_rfl) (fun _ _ _ h => h) (Or.inl ⟨by rfl, ?_⟩) hHeld ?_
    rotate_left
    · intro wq hSw
      go_simp
      all_goals with_reducible rfl
    try simp only [Act.put, List.getElem_toArray, List.getElem_cons_succ, List.getElem_cons_zero, List.setIfInBounds_toArray, List.set_cons_zero, List.set_cons_succ]
    refine wpAnyH_take (i := 14) (v := ?_) rfl (by kernel_rfl) (by kernel_rfl) (by kernel_rfl) (fun _ _ _ h => h) (Or.inl ⟨by rfl, ?_⟩) hHeld ?_
    rotate_left
    · intro wq hSw
      go_simp
      all_goals with_reducible rfl
    try simp only [Act.put, List.getElem_toArray, List.getElem_cons_succ, List.getElem_cons_zero, List.setIfInBounds_toArray, List.set_cons_zero, List.set_cons_succ]
    refine wpAnyH_take (i := 15) (v := ?_) rfl (by kernel_rfl) (by kernel_rfl) (by kernel_rfl) (fun _ _ _ h => h) (Or.inl ⟨by rfl, ?_⟩) hHeld ?_
    rotate_left
    · intro wq hSw
      go_simp
      all_goals with_reducible rfl
    try simp only [Act.put, List.getElem_toArray, List.getElem_cons_succ, List.getElem_cons_zero, List.setIfInBounds_toArray, List.set_cons_zero, List.set_cons_succ]
    refine wpAnyH_take (i := 16) (v := ?_) rfl (by kernel_rfl) (by kernel_rfl) (by kernel_rfl) (fun _ _ _ h => h) (Or.inl ⟨by rfl, ?_⟩) hHeld ?_
    rotate_left
    · intro wq hSw
      have q0 := hSw.1
      go_simp
      all_goals with_reducible rfl
    try simp only [Act.put, List.getElem_toArray, List.getElem_cons_succ, List.getElem_cons_zero, List.setIfInBounds_toArray, List.set_cons_zero, List.set_cons_succ]
    refine wpAnyH_take (i := 17) (v := ?_) rfl (by kernel_rfl) (by kernel_rfl) (by kernel_rfl) (fun _ _ _ h => h) (Or.inl ⟨by rfl, ?_⟩) hHeld ?_
    rotate_left
    · intro wq hSw
      go_simp
      all_goals with_reducible rfl
    try simp only [Act.put, List.getElem_toArray, List.getElem_cons_succ, List.getElem_cons_zero, List.setIfInBounds_toArray, List.set_cons_zero, List.set_cons_succ]
    refine wpAnyH_take (i := 18) (v := ?_) rfl (by kernel_rfl) (by kernel_rfl) (by kernel_rfl) (fun _ _ _ h => h) (Or.inl ⟨by rfl, ?_⟩) hHeld ?_
    rotate_left
    · intro wq hSw
      go_simp
      all_goals with_reducible rfl
    try simp only [Act.put, List.getElem_toArray, List.getElem_cons_succ, List.getElem_cons_zero, List.setIfInBounds_toArray, List.set_cons_zero, List.set_cons_succ]
    refine wpAnyH_take (i := 20) (v := ?_) rfl (by kernel_rfl) (by kernel_rfl) (by kernel_rfl) (fun _ _ _ h => h) (Or.inl ⟨by rfl, ?_⟩) hHeld ?_
    rotate_left
    · intro wq hSw
      go_simp
      all_goals with_reducible rfl
    try simp only [Act.put, List.getElem_toArray, List.getElem_cons_succ, List.getElem_cons_zero, List.setIfInBounds_toArray, List.set_cons_zero, List.set_cons_succ]
    refine wpAnyH_take (i := 21) (v := ?_) rfl (by kernel_rfl) (by kernel_rfl) (by kernel_rfl) (fun _ _ _ h => h) (Or.inl ⟨by rfl, ?_⟩) hHeld ?_
    rotate_left
    · intro wq hSw
      go_simp
      all_goals with_reducible rfl
    try simp only [Act.put, List.getElem_toArray, List.getElem_cons_succ, List.getElem_cons_zero, List.setIfInBounds_toArray, List.set_cons_zero, List.set_cons_succ]
    refine wpAnyH_take (i := 22) (v := ?_) rfl (by kernel_rfl) (by kernel_rfl) (by kernel_rfl) (fun _ _ _ h => h) (Or.inl ⟨by rfl, ?_⟩) hHeld ?_
    rotate_left
    · intro wq hSw
      go_simp
      all_goals with_reducible rfl
    try simp only [Act.put, List.getElem_toArray, List.getElem_cons_succ, List.getElem_cons_zero, List.setIfInBounds_toArray, List.set_cons_zero, List.set_cons_succ]
    refine wpAnyH_take (i := 23) (v := ?_) rfl (by kernel_rfl) (by kernel_rfl) (by kernel_rfl) (fun _ _ _ h => h) (Or.inl ⟨by rfl, ?_⟩) hHeld ?_
    rotate_left
    · intro wq hSw
      have q0 := hSw.1
      go_simp
      all_goals with_reducible rfl
    try simp only [Act.put, List.getElem_toArray, List.getElem_cons_succ, List.getElem_cons_zero, List.setIfInBounds_toArray, List.set_cons_zero, List.set_cons_succ]
    refine wpAnyH_take (i := 24) (v := ?_) rfl (by kernel_rfl) (by kernel_rfl) (by kernel_rfl) (fun _ _ _ h => h) (Or.inl ⟨by rfl, ?_⟩) hHeld ?_
    rotate_left
    · intro wq hSw
      go_simp
      all_goals with_reducible rfl
    try simp only [Act.put, List.getElem_toArray, List.getElem_cons_succ, List.getElem_cons_zero, List.setIfInBounds_toArray, List.set_cons_zero, List.set_cons_succ]
    refine wpAnyH_take (i := 25) (v := ?_) rfl (by kernel_rfl) (by kernel_rfl) (by kernel_rfl) (fun _ _ _ h => h) (Or.inl ⟨by rfl, ?_⟩) hHeld ?_
    rotate_left
    · intro wq hSw
      go_simp
      all_goals with_reducible rfl
    try simp only [Act.put, List.getElem_toArray, List.getElem_cons_succ, List.getElem_cons_zero, List.setIfInBounds_toArray, List.set_cons_zero, List.set_cons_succ]
    refine wpAnyH_take (i := 26) (v := ?_) rfl (by kernel_rfl) (by kernel_rfl) (by kernel_rfl) (fun _ _ _ h => h) (Or.inl ⟨by rfl, ?_⟩) hHeld ?_
    rotate_left
    · intro wq hSw
      go_simp
      all_goals with_reducible rfl
    try simp only [Act.put, List.getElem_toArray, List.getElem_cons_succ, List.getElem_cons_zero, List.setIfInBounds_toArray, List.set_cons_zero, List.set_cons_succ]
    refine wpAnyH_take (i := 27) (v := ?_) rfl (by kernel_rfl) (by kernel_rfl) (by kernel_rfl) (fun _ _ _ h => h) (Or.inl ⟨by rfl, ?_⟩) hHeld ?_
    rotate_left
    · intro wq hSw
      have q0 := hSw.2
      go_simp
      all_goals with_reducible rfl
    try simp only [Act.put, List.getElem_toArray, List.getElem_cons_succ, List.getElem_cons_zero, List.setIfInBounds_toArray, List.set_cons_zero, List.set_cons_succ]
    refine wpAnyH_take (i := 28) (v := ?_) rfl (by kernel_rfl) (by kernel_rfl) (by kernel_rfl) (fun _ _ _ h => h) (Or.inl ⟨by rfl, ?_⟩) hHeld ?_
    rotate_left
    · intro wq hSw
      go_simp
      all_goals with_reducible rfl
    try simp only [Act.put, List.getElem_toArray, List.getElem_cons_succ, List.getElem_cons_zero, List.setIfInBounds_toArray, List.set_cons_zero, List.set_cons_succ]
    refine wpAnyH_ready (rs := [19, 29]) (by kernel_rfl) (by simp) ?_
    refine AllReadyH.cons rfl (fun K hK => ?_) (AllReadyH.cons rfl (fun K hK => ?_) AllReadyH.nil)
    · go_simp
      refine hK.out _ _ hHeld (fun hHeld => ?_)
      clear hK K
      try simp only [Act.put, List.getElem_toArray, List.getElem_cons_succ, List.getElem_cons_zero, List.setIfInBounds_toArray, List.set_cons_zero, List.set_cons_succ]
      refine wpAnyH_ready (rs := [29]) (by kernel_rfl) (by simp) ?_
      refine AllReadyH.cons rfl (fun K hK => ?_) AllReadyH.nil
      go_simp
      refine hK.out _ _ hHeld (fun hHeld => ?_)
      clear hK K
      try simp only [Act.put, List.getElem_toArray, List.getElem_cons_succ, List.getElem_cons_zero, List.setIfInBounds_toArray, List.set_cons_zero, List.set_cons_succ]
      refine wpAnyH_take (i := 30) (v := ?_) rfl (by kernel_rfl) (by kernel_rfl) (by kernel_rfl) (fun _ _ _ h => h) (Or.inl ⟨by rfl, ?_⟩) hHeld ?_
      rotate_left
      · intro wq hSw
        go_simp
        all_goals with_reducible rfl
      try simp only [Act.put, List.getElem_toArray, List.getElem_cons_succ, List.getElem_cons_zero, List.setIfInBounds_toArray, List.set_cons_zero, List.set_cons_succ]
      refine wpAnyH_ready (rs := [31]) (by kernel_rfl) (by simp) ?_
      refine AllReadyH.cons rfl (fun K hK => ?_) AllReadyH.nil
      go_simp
      refine hK.out _ _ ⟨c01, c11⟩ (fun hHeld => ?_)
      clear hK K
      try simp only [Act.put, List.getElem_toArray, List.getElem_cons_succ, List.getElem_cons_zero, List.setIfInBounds_toArray, List.set_cons_zero, List.set_cons_succ]
      refine wpAnyH_take (i := 32) (v := ?_) rfl (by kernel_rfl) (by kernel_rfl) (by kernel_rfl) (fun _ _ _ h => h) (Or.inl ⟨by rfl, ?_⟩) hHeld ?_
      rotate_left
      · intro wq hSw
        go_simp
        all_goals with_reducible rfl
      try simp only [Act.put, List.getElem_toArray, List.getElem_cons_succ, List.getElem_cons_zero, List.setIfInBounds_toArray, List.set_cons_zero, List.set_cons_succ]
      refine wpAnyH_ready (rs := [33]) (by kernel_rfl) (by simp) ?_
      refine AllReadyH.cons rfl (fun K hK => ?_) AllReadyH.nil
      go_simp
      refine hK.out _ _ ⟨c02, c12⟩ (fun hHeld => ?_)
      clear hK K
      try simp only [Act.put, List.getElem_toArray, List.getElem_cons_succ, List.getElem_cons_zero, List.setIfInBounds_toArray, List.set_cons_zero, List.set_cons_succ]
      refine wpAnyH_done (by kernel_rfl) ?_ _
      refine NoPanic.normal ?_
      clear hHeld
      go_wp2_with fail
      go_meet
      case rel => exact ⟨_, H2.out, HX.out⟩
    · go_simp
      refine hK.out _ _ hHeld (fun hHeld => ?_)
      clear hK K
      try simp only [Act.put, List.getElem_toArray, List.getElem_cons_succ, List.getElem_cons_zero, List.setIfInBounds_toArray, List.set_cons_zero, List.set_cons_succ]
      refine wpAnyH_ready (rs := [19]) (by kernel_rfl) (by simp) ?_
      refine AllReadyH.cons rfl (fun K hK => ?_) AllReadyH.nil
      go_simp
      refine hK.out _ _ hHeld (fun hHeld => ?_)
      clear hK K
      try simp only [Act.put, List.getElem_toArray, List.getElem_cons_succ, List.getElem_cons_zero, List.setIfInBounds_toArray, List.set_cons_zero, List.set_cons_succ]
      refine wpAnyH_take (i := 30) (v := ?_) rfl (by kernel_rfl) (by kernel_rfl) (by kernel_rfl) (fun _ _ _ h => h) (Or.inl ⟨by rfl, ?_⟩) hHeld ?_
      rotate_left
      · intro wq hSw
        go_simp
        all_goals with_reducible rfl
      try simp only [Act.put, List.getElem_toArray, List.getElem_cons_succ, List.getElem_cons_zero, List.setIfInBounds_toArray, List.set_cons_zero, List.set_cons_succ]
      refine wpAnyH_ready (rs := [31]) (by kernel_rfl) (by simp) ?_
      refine AllReadyH.cons rfl (fun K hK => ?_) AllReadyH.nil
      go_simp
      refine hK.out _ _ ⟨c01, c11⟩ (fun hHeld => ?_)
      clear hK K
      try simp only [Act.put, List.getElem_toArray, List.getElem_cons_succ, List.getElem_cons_zero, List.setIfInBounds_toArray, List.set_cons_zero, List.set_cons_succ]
      refine wpAnyH_take (i := 32) (v := ?_) rfl (by kernel_rfl) (by kernel_rfl) (by kernel_rfl) (fun _ _ _ h => h) (Or.inl ⟨by rfl, ?_⟩) hHeld ?_
      rotate_left
      · intro wq hSw
        go_simp
        all_goals with_reducible rfl
      try simp only [Act.put, List.getElem_toArray, List.getElem_cons_succ, List.getElem_cons_zero, List.setIfInBounds_toArray, List.set_cons_zero, List.set_cons_succ]
      refine wpAnyH_ready (rs := [33]) (by kernel_rfl) (by simp) ?_
      refine AllReadyH.cons rfl (fun K hK => ?_) AllReadyH.nil
      go_simp
      refine hK.out _ _ ⟨c02, c12⟩ (fun hHeld => ?_)
      clear hK K
      try simp only [Act.put, List.getElem_toArray, List.getElem_cons_succ, List.getElem_cons_zero, List.setIfInBounds_toArray, List.set_cons_zero, List.set_cons_succ]
      refine wpAnyH_done (by kernel_rfl) ?_ _
      refine NoPanic.normal ?_
      clear hHeld
      go_wp2_with fail
      go_meet
      case rel => exact ⟨_, H2.out, HX.out⟩
  case rest =>
    clear c0 c1 cd cf gfd c01 c11 cf1 gff1 c02 c12 H1 H2 HX hwd
    obtain ⟨rs2, h2, hx2⟩ := hcut
    obtain ⟨wv, rfl⟩ : ∃ wv, wv = wc := ⟨_, rfl⟩
    have H2 := Lib.hid h2
    have X2 := Lib.hid hx2
    obtain ⟨c0, c1, _, _⟩ := h2.cells
    have X0 : Hid (((rowsXs rs2).getD d []).getD col 0 ≠ 0) := by show _ ≠ _; rw [hx2]; exact HX0.out
    have d7 : (d : Int) + 1 ≤ 1000 := by have := HL.out; omega
    have hwr : IntKind.i64.wrap ((d : Int) + 1) = (d : Int) + 1 := IntWalk.i64_in _ (by omega)
    clear h2 hx2
    go_wp2_with fail
    refine wp_region_noPanic ?_
    refine wp_region_held_drew (S := fun wz => wz.cell? ⟨b, 1, none⟩ = some (.int .i64 (d : Int))) (by kernel_rfl) c1 (fun hHeld => ?_)
    refine wpAnyH_take (i := 0) (v := ?_) rfl (by kernel_rfl) (by kernel_rfl) (by kernel_rfl) (fun _ _ _ h => h) (Or.inl ⟨by rfl, ?_⟩) hHeld ?_
    rotate_left
    · intro wq hSw
      go_simp
      all_goals with_reducible rfl
    try simp only [Act.put, List.getElem_toArray, List.getElem_cons_succ, List.getElem_cons_zero, List.setIfInBounds_toArray, List.set_cons_zero, List.set_cons_succ]
    refine wpAnyH_take (i := 1) (v := ?_) rfl (by kernel_rfl) (by kernel_rfl) (by kernel_rfl) (fun _ _ _ h => h) (Or.inl ⟨by rfl, ?_⟩) hHeld ?_
    rotate_left
    · intro wq hSw
      go_simp
      all_goals with_reducible rfl
    try simp only [Act.put, List.getElem_toArray, List.getElem_cons_succ, List.getElem_cons_zero, List.setIfInBounds_toArray, List.set_cons_zero, List.set_cons_succ]
    refine wpAnyH_take (i := 2) (v := ?_) rfl (by kernel_rfl) (by kernel_rfl) (by kernel_rfl) (fun _ _ _ h => h) (Or.inl ⟨by rfl, ?_⟩) hHeld ?_
    rotate_left
    · intro wq hSw
      go_simp
      all_goals with_reducible rfl
    try simp only [Act.put, List.getElem_toArray, List.getElem_cons_succ, List.getElem_cons_zero, List.setIfInBounds_toArray, List.set_cons_zero, List.set_cons_succ]
    refine wpAnyH_take (i := 3) (v := ?_) rfl (by kernel_rfl) (by kernel_rfl) (by kernel_rfl) (fun _ _ _ h => h) (Or.inl ⟨by rfl, ?_⟩) hHeld ?_
    rotate_left
    · intro wq hSw
      have q0 := hSw
      go_simp
      all_goals with_reducible rfl
    try simp only [Act.put, List.getElem_toArray, List.getElem_cons_succ, List.getElem_cons_zero, List.setIfInBounds_toArray, List.set_cons_zero, List.set_cons_succ]
    refine wpAnyH_take (i := 4) (v := ?_) rfl (by kernel_rfl) (by kernel_rfl) (by kernel_rfl) (fun _ _ _ h => h) (Or.inl ⟨by rfl, ?_⟩) hHeld ?_
    rotate_left
    · intro wq hSw
      go_simp
      all_goals with_reducible rfl
    try simp only [Act.put, List.getElem_toArray, List.getElem_cons_succ, List.getElem_cons_zero, List.setIfInBounds_toArray, List.set_cons_zero, List.set_cons_succ]
    refine wpAnyH_take (i := 5) (v := ?_) rfl (by kernel_rfl) (by kernel_rfl) (by kernel_rfl) (fun _ _ _ h => h) (Or.inl ⟨by rfl, ?_⟩) hHeld ?_
    rotate_left
    · intro wq hSw
      go_simp
      all_goals with_reducible rfl
    try simp only [Act.put, List.getElem_toArray, List.getElem_cons_succ, List.getElem_cons_zero, List.setIfInBounds_toArray, List.set_cons_zero, List.set_cons_succ]
    refine wpAnyH_take (i := 6) (v := ?_) rfl (by kernel_rfl) (by kernel_rfl) (by kernel_rfl) (fun _ _ _ h => h) (Or.inl ⟨by rfl, ?_⟩) hHeld ?_
    rotate_left
    · intro wq hSw
      go_simp
      all_goals with_reducible rfl
    try simp only [Act.put, List.getElem_toArray, List.getElem_cons_succ, List.getElem_cons_zero, List.setIfInBounds_toArray, List.set_cons_zero, List.set_cons_succ]
    refine wpAnyH_take (i := 7) (v := ?_) rfl (by kernel_rfl) (by kernel_rfl) (by kernel_rfl) (fun _ _ _ h => h) (Or.inl ⟨by rfl, ?_⟩) hHeld ?_
    rotate_left
    · intro wq hSw
      have q0 := hSw
      go_simp
      all_goals with_reducible rfl
    try simp only [Act.put, List.getElem_toArray, List.getElem_cons_succ, List.getElem_cons_zero, List.setIfInBounds_toArray, List.set_cons_zero, List.set_cons_succ]
    refine wpAnyH_take (i := 8) (v := ?_) rfl (by kernel_rfl) (by kernel_rfl) (by kernel_rfl) (fun _ _ _ h => h) (Or.inl ⟨by rfl, ?_⟩) hHeld ?_
    rotate_left
    · intro wq hSw
      go_simp
      all_goals with_reducible rfl
    try simp only [Act.put, List.getElem_toArray, List.getElem_cons_succ, List.getElem_cons_zero, List.setIfInBounds_toArray, List.set_cons_zero, List.set_cons_succ]
    refine wpAnyH_take (i := 9) (v := ?_) rfl (by kernel_rfl) (by kernel_rfl) (by kernel_rfl) (fun _ _ _ h => h) (Or.inl ⟨by rfl, ?_⟩) hHeld ?_
    rotate_left
    · intro wq hSw
      go_simp
      all_goals with_reducible rfl
    try simp only [Act.put, List.getElem_toArray, List.getElem_cons_succ, List.getElem_cons_zero, List.setIfInBounds_toArray, List.set_cons_zero, List.set_cons_succ]
    refine wpAnyH_take (i := 10) (v := ?_) rfl (by kernel_rfl) (by kernel_rfl) (by kernel_rfl) (fun _ _ _ h => h) (Or.inl ⟨by rfl, ?_⟩) hHeld ?_
    rotate_left
    · intro wq hSw
      go_simp
      all_goals with_reducible rfl
    try simp only [Act.put, List.getElem_toArray, List.getElem_cons_succ, List.getElem_cons_zero, List.setIfInBounds_toArray, List.set_cons_zero, List.set_cons_succ]
    refine wpAnyH_ready (rs := [11]) (by kernel_rfl) (by simp) ?_
    refine AllReadyH.cons rfl (fun K hK => ?_) AllReadyH.nil
    go_simp
    refine (mdivides_any (H2.out.later (Keep.drew (Keep.refl _))) (by have := HL.out; omega) HL.out.2.2.2.1 X0.out HL.out.2.2.2.2.2 HL.out.2.2.2.2.1).mono ?_
    rintro e w3 ⟨rfl, rs3, h3, x3⟩
    obtain ⟨c0, c1, _, _⟩ := h3.cells
    have H3 := Lib.hid h3
    have X3 := Lib.hid x3
    clear h3 x3
    refine hK.out _ _ c1 (fun hHeld => ?_)
    clear hK K
    try simp only [Act.put, List.getElem_toArray, List.getElem_cons_succ, List.getElem_cons_zero, List.setIfInBounds_toArray, List.set_cons_zero, List.set_cons_succ]
    refine wpAnyH_done (by kernel_rfl) ?_ _
    refine NoPanic.normal ?_
    clear hHeld
    clear H2
    go_wp2_with fail
    refine (mwipes_any H3.out 0 d (by omega) (by have := HL.out; omega) (by have := HL.out; omega) (Or.inr (Nat.le_refl _)) HL.out.2.2.2.1 HL.out.2.2.2.2.2 HL.out.2.2.2.2.1).mono ?_
    rintro e w4 ⟨rfl, rs4, h4, x4⟩
    obtain ⟨c0, c1, _, _⟩ := h4.cells
    have H4 := Lib.hid h4
    have X4 := Lib.hid x4
    clear h4 x4 H3
    go_wp2_with fail
    refine wp_region_noPanic ?_
    refine wp_region_held_drew (S := fun wz => wz.cell? ⟨b, 0, none⟩ = some (.slice (some ⟨g, 0, none⟩) n cap) ∧ wz.cell? ⟨b, 1, none⟩ = some (.int .i64 (d : Int))) (by kernel_rfl) ⟨c0, c1⟩ (fun hHeld => ?_)
    refine wpAnyH_take (i := 0) (v := ?_) rfl (by kernel_rfl) (by kernel_rfl) (by kernel_rfl) (fun _ _ _ h => h) (Or.inl ⟨by rfl, ?_⟩) hHeld ?_
    rotate_left
    · intro wq hSw
      go_simp
      all_goals with_reducible rfl
    try simp only [Act.put, List.getElem_toArray, List.getElem_cons_succ, List.getElem_cons_zero, List.setIfInBounds_toArray, List.set_cons_zero, List.set_cons_succ]
    refine wpAnyH_take (i := 1) (v := ?_) rfl (by kernel_rfl) (by kernel_rfl) (by kernel_rfl) (fun _ _ _ h => h) (Or.inl ⟨by rfl, ?_⟩) hHeld ?_
    rotate_left
    · intro wq hSw
      go_simp
      all_goals with_reducible rfl
    try simp only [Act.put, List.getElem_toArray, List.getElem_cons_succ, List.getElem_cons_zero, List.setIfInBounds_toArray, List.set_cons_zero, List.set_cons_succ]
    refine wpAnyH_take (i := 2) (v := ?_) rfl (by kernel_rfl) (by kernel_rfl) (by kernel_rfl) (fun _ _ _ h => h) (Or.inl ⟨by rfl, ?_⟩) hHeld ?_
    rotate_left
    · intro wq hSw
      go_simp
      all_goals with_reducible rfl
    try simp only [Act.put, List.getElem_toArray, List.getElem_cons_succ, List.getElem_cons_zero, List.setIfInBounds_toArray, List.set_cons_zero, List.set_cons_succ]
    refine wpAnyH_take (i := 3) (v := ?_) rfl (by kernel_rfl) (by kernel_rfl) (by kernel_rfl) (fun _ _ _ h => h) (Or.inl ⟨by rfl, ?_⟩) hHeld ?_
    rotate_left
    · intro wq hSw
      have q0 := hSw.2
      go_simp
      all_goals with_reducible rfl
    try simp only [Act.put, List.getElem_toArray, List.getElem_cons_succ, List.getElem_cons_zero, List.setIfInBounds_toArray, List.set_cons_zero, List.set_cons_succ]
    refine wpAnyH_take (i := 4) (v := ?_) rfl (by kernel_rfl) (by kernel_rfl) (by kernel_rfl) (fun _ _ _ h => h) (Or.inl ⟨by rfl, ?_⟩) hHeld ?_
    rotate_left
    · intro wq hSw
      go_simp
      all_goals with_reducible rfl
    try simp only [Act.put, List.getElem_toArray, List.getElem_cons_succ, List.getElem_cons_zero, List.setIfInBounds_toArray, List.set_cons_zero, List.set_cons_succ]
    refine wpAnyH_take (i := 5) (v := ?_) rfl (by kernel_rfl) (by kernel_rfl) (by kernel_rfl) (fun _ _ _ h => h) (Or.inl ⟨by rfl, ?_⟩) hHeld ?_
    rotate_left
    · intro wq hSw
      go_simp
      all_goals with_reducible rfl
    try simp only [Act.put, List.getElem_toArray, List.getElem_cons_succ, List.getElem_cons_zero, List.setIfInBounds_toArray, List.set_cons_zero, List.set_cons_succ]
    refine wpAnyH_take (i := 6) (v := ?_) rfl (by kernel_rfl) (by kernel_rfl) (by kernel_rfl) (fun _ _ _ h => h) (Or.inl ⟨by rfl, ?_⟩) hHeld ?_
    rotate_left
    · intro wq hSw
      go_simp
      all_goals with_reducible rfl
    try simp only [Act.put, List.getElem_toArray, List.getElem_cons_succ, List.getElem_cons_zero, List.setIfInBounds_toArray, List.set_cons_zero, List.set_cons_succ]
    refine wpAnyH_take (i := 7) (v := ?_) rfl (by kernel_rfl) (by kernel_rfl) (by kernel_rfl) (fun _ _ _ h => h) (Or.inl ⟨by rfl, ?_⟩) hHeld ?_
    rotate_left
    · intro wq hSw
      go_simp
      all_goals with_reducible rfl
    try simp only [Act.put, List.getElem_toArray, List.getElem_cons_succ, List.getElem_cons_zero, List.setIfInBounds_toArray, List.set_cons_zero, List.set_cons_succ]
    refine wpAnyH_take (i := 8) (v := ?_) rfl (by kernel_rfl) (by kernel_rfl) (by kernel_rfl) (fun _ _ _ h => h) (Or.inl ⟨by rfl, ?_⟩) hHeld ?_
    rotate_left
    · intro wq hSw
      have q0 := hSw.1
      go_simp
      all_goals with_reducible rfl
    try simp only [Act.put, List.getElem_toArray, List.getElem_cons_succ, List.getElem_cons_zero, List.setIfInBounds_toArray, List.set_cons_zero, List.set_cons_succ]
    refine wpAnyH_take (i := 9) (v := ?_) rfl (by kernel_rfl) (by kernel_rfl) (by kernel_rfl) (fun _ _ _ h => h) (Or.inl ⟨by rfl, ?_⟩) hHeld ?_
    rotate_left
    · intro wq hSw
      go_simp
      all_goals with_reducible rfl
    try simp only [Act.put, List.getElem_toArray, List.getElem_cons_succ, List.getElem_cons_zero, List.setIfInBounds_toArray, List.set_cons_zero, List.set_cons_succ]
    refine wpAnyH_take (i := 10) (v := ?_) rfl (by kernel_rfl) (by kernel_rfl) (by kernel_rfl) (fun _ _ _ h => h) (Or.inl ⟨by rfl, ?_⟩) hHeld ?_
    rotate_left
    · intro wq hSw
      go_simp
      all_goals with_reducible rfl
    try simp only [Act.put, List.getElem_toArray, List.getElem_cons_succ, List.getElem_cons_zero, List.setIfInBounds_toArray, List.set_cons_zero, List.set_cons_succ]
    refine wpAnyH_take (i := 11) (v := ?_) rfl (by kernel_rfl) (by kernel_rfl) (by kernel_rfl) (fun _ _ _ h => h) (Or.inl ⟨by rfl, ?_⟩) hHeld ?_
    rotate_left
    · intro wq hSw
      go_simp
      all_goals with_reducible rfl
    try simp only [Act.put, List.getElem_toArray, List.getElem_cons_succ, List.getElem_cons_zero, List.setIfInBounds_toArray, List.set_cons_zero, List.set_cons_succ]
    refine wpAnyH_ready (rs := [12]) (by kernel_rfl) (by simp) ?_
    refine AllReadyH.cons rfl (fun K hK => ?_) AllReadyH.nil
    go_simp
    refine (mwipes_any (H4.out.later (Keep.drew (Keep.refl _))) (d + 1) n (by have := HL.out; omega) (Nat.le_refl _) (by have := HL.out; omega) (Or.inl (Nat.lt_succ_self d)) HL.out.2.2.2.1 HL.out.2.2.2.2.2 HL.out.2.2.2.2.1).mono ?_
    rintro e w5 ⟨rfl, rs5, h5, x5⟩
    obtain ⟨c0, c1, _, f1⟩ := h5.cells
    have f1 := f1 1
    have H5 := Lib.hid h5
    have X5 := Lib.hid x5
    clear h5 x5
    refine hK.out _ _ ⟨c0, c1⟩ (fun hHeld => ?_)
    clear hK K
    try simp only [Act.put, List.getElem_toArray, List.getElem_cons_succ, List.getElem_cons_zero, List.setIfInBounds_toArray, List.set_cons_zero, List.set_cons_succ]
    refine wpAnyH_done (by kernel_rfl) ?_ _
    refine NoPanic.normal ?_
    clear hHeld
    clear H4
    go_wp2_with fail
    go_end0
    refine ⟨rfl, rs5, H5.out.setDone (d + 1), ?_⟩
    rw [X5.out, X4.out, X3.out, X2.out, takeL, HL.out.1]
end Go.Proofs.YtcjjhblgejkkeaaGreat
/- The landed code of layer 6: a matrix reduced by columns. -/
namespace Go.Proofs.YtcjjhblgejkkeaaGreat
open Go.RowKit Lin
set_option linter.unusedVariables false
set_option linter.unusedSimpArgs false
theorem wk_rank {W w : World} {b : Nat} {A : Option Addr} {n cap nc B d col q : Nat} {rs : List RowV} (h : Wk W w b A n cap nc B d col q rs) : True := trivial
set_option maxRecDepth 100000 in
set_option maxHeartbeats 1000000 in
theorem mwork_any {W w : World} {b : Nat} {A : Option Addr} {n cap nc B width : Nat} {rs : List RowV} (h : Wk W w b A n cap nc B 0 0 0 rs) (hwd : width ≤ nc) (hn : n ≤ 1000) (hnc : nc ≤ 2000) :
    Calls Tryz.prog 134 #[.pointer (some ⟨b, 0, none⟩), .int .i64 (width : Int)] w fun e w' => e = .returned (.tuple #[]) ∧ ∃ (d col : Nat) (l : Nat → Nat) (rs' : List RowV), Wk W w' b A n cap nc B d col d rs' ∧ Part n d col (fn (rowsXs rs')) l ∧ SameSpan (rowsXs rs') (rowsXs rs) ∧ (col = width ∨ d = n) ∧ col ≤ width := by
  obtain ⟨_, _, c2, cfz⟩ := h.cells
  have cf2 := cfz 2
  have H := Lib.hid h
  have HP0 : Hid (Part n 0 0 (fn (rowsXs rs)) (fun _ => 0)) := Part.start n _ _
  have HW : Hid (width ≤ nc ∧ n ≤ 1000 ∧ nc ≤ 2000) := ⟨hwd, hn, hnc⟩
  clear h cfz hwd hn hnc
  go_enter Tryz.func134, Tryz.ntmps134
  go_wp2_with fail
  go_step3
  go_wp2_with fail
  go_step3
  go_wp2_with fail
  have h0 := H.out.setCol 0
  have H0 := Lib.hid h0
  clear h0 c2 cf2
  go_loopg [] width (fun g wx => ∃ (d col : Nat) (l : Nat → Nat) (rs' : List RowV), col + g = width ∧ Wk W wx b A n cap nc B d col d rs' ∧ Part n d col (fn (rowsXs rs')) l ∧ SameSpan (rowsXs rs') (rowsXs rs))
  case atStart => exact ⟨0, 0, _, rs, by omega, H0.out, HP0.out, SameSpan.refl _⟩
  case round =>
    clear H0 HP0
    obtain ⟨d, col, l, rs', hcg, hW, hP, hS⟩ := hrel
    have HWk := Lib.hid hW
    have HP := Lib.hid hP
    have HSp := Lib.hid hS
    obtain ⟨c0, c1, c2, _⟩ := hW.cells
    have hdle := hP.le
    clear hW hP hS
    cases gk with
    | zero =>
      obtain rfl : col = width := by omega
      have e1 : ¬ (col : Int) < (col : Int) := by omega
      go_wp2_with fail
      go_quiet (fail)
      go_wp2_with fail
      rw [Exit.noGoto_normal]
      go_end0
      exact ⟨rfl, d, col, l, rs', HWk.out.later ((Keep.refl _).drewN _), HP.out, HSp.out, Or.inl rfl, Nat.le_refl _⟩
    | succ g =>
      have e1 : (col : Int) < (width : Int) := by omega
      by_cases hdn : d < n
      · have e2 : (d : Int) < (n : Int) := by omega
        go_wp2_with fail
        go_quiet (fail)
        have H1 := Lib.hid (HWk.out.later ((Keep.refl wr).drewN nq))
        generalize wr.drewN nq = w1 at *
        obtain ⟨c0, c1, c2, _⟩ := H1.out.cells
        clear HWk
        go_wp2_with fail
        go_loopg [4] (n - d - 1) (fun g2 v wy => ∃ f : Nat, f + g2 + 1 = n ∧ v = .int .i64 f ∧ d ≤ f ∧ Wk W wy b A n cap nc B d col d rs' ∧ ∀ k, d ≤ k → k < f → ((rowsXs rs').getD k []).getD col 0 = 0)
        case atStart => exact ⟨d, by omega, rfl, Nat.le_refl _, H1.out, fun k h1 h2 => by omega⟩
        case round =>
          clear H1 c0 c1 c2
          obtain ⟨f, hfg, rfl, hdf, hWy, hz⟩ := hrel
          obtain ⟨g0, rfl, q1, q2, q3, qf, qc⟩ := hWy.place (by omega)
          obtain ⟨c0, c1, c2, cz⟩ := hWy.cells
          have cz2 := cz 2
          obtain ⟨r, hr, hrn, hby⟩ := hWy.row (k := f) (by omega)
          have cr := qc f r hr
          have hw := HW.out
          obtain ⟨b3, o3, e3, hb3, cx⟩ := hby.at_ (k := col) (by omega)
          rw [hrn, e3] at cr
          have hx := hby.all.getD col
          have hxr := rowsXs_at hr
          obtain ⟨x, hxe⟩ : ∃ x, r.xs.getD col 0 = x := ⟨_, rfl⟩
          have HXF : Hid (((rowsXs rs').getD f []).getD col 0 = x) := by show _ = _; rw [hxr, hxe]
          rw [hxe] at hx cx
          have HZ := Lib.hid hz
          have HY := Lib.hid hWy
          have d1 : (0 : Int) ≤ (f : Int) := Int.natCast_nonneg _
          have d2 : (f : Int) < (n : Int) := by omega
          have d3 : (0 : Int) ≤ (col : Int) := Int.natCast_nonneg _
          have d4 : (col : Int) < (nc : Int) := by omega
          clear hz hWy qc qf cz hr hrn hby e3 hb3 hxr hxe
          by_cases hx0 : x = 0
          · subst hx0
            have HZ2 : Hid (∀ k, d ≤ k → k < f + 1 → ((rowsXs rs').getD k []).getD col 0 = 0) := fun k h1 h2 => by
              by_cases e : k = f
              · subst e; exact HXF.out
              · exact HZ.out k h1 (by omega)
            cases gk with
            | zero =>
              have e3 : f + 1 = n := by omega
              have e4 : ((f : Int) + 1 == (n : Int)) = true := beq_iff_eq.2 (by omega)
              have HN : Hid (f + 1 = n) := e3
              clear e3 HZ
              go_wp2_with fail
              go_quiet (fail)
              have H2 := Lib.hid (HY.out.later ((Keep.refl wr).drewN nq))
              generalize wr.drewN nq = w2 at *
              obtain ⟨c0, c1, c2, cz⟩ := H2.out.cells
              have cz2 := cz 2
              clear HY cz
              go_wp2_with fail
              go_roundg g
              case measure => omega
              case rel => exact ⟨d, col + 1, l, rs', by omega, H2.out.setCol (col + 1), HP.out.skip fun k h1 h2 => by
                have := HZ2.out k h1 (by have := HN.out; omega)
                apply By.ext
                rw [fn, vec_v (H2.out.ok.at_ (by rw [H2.out.len]; exact h2)).2, this]; rfl, HSp.out⟩
            | succ g2 =>
              have e4 : ((f : Int) + 1 == (n : Int)) = false := beq_eq_false_iff_ne.2 (by omega)
              clear HZ
              go_wp2_with fail
              go_quiet (fail)
              have H2 := Lib.hid (HY.out.later ((Keep.refl wr).drewN nq))
              generalize wr.drewN nq = w2 at *
              obtain ⟨c0, c1, c2, cz⟩ := H2.out.cells
              clear HY cz
              go_wp2_with fail
              go_roundg g2
              case measure => omega
              case rel => exact ⟨f + 1, by omega, by go_num, by omega, H2.out, HZ2.out⟩
          · have e4 : ((x : Int) == 0) = false := beq_eq_false_iff_ne.2 (by omega)
            have HX0 : Hid (((rowsXs rs').getD f []).getD col 0 ≠ 0) := by show _ ≠ _; rw [HXF.out]; exact hx0
            clear HZ hx0
            go_wp2_with fail
            go_quiet (fail)
            have H2 := Lib.hid (HY.out.later ((Keep.refl wr).drewN nq))
            generalize wr.drewN nq = w2 at *
            clear HY
            go_wp2_with fail
            refine (mtake_any H2.out hdf (by omega) (by have := HW.out; omega) HX0.out HW.out.2.1 HW.out.2.2).mono ?_
            rintro e w3 ⟨rfl, rs3, h3, x3⟩
            obtain ⟨c0, c1, c2, cz⟩ := h3.cells
            have cz2 := cz 2
            have H3 := Lib.hid h3
            have X3 := Lib.hid x3
            clear h3 x3 cz
            go_wp2_with fail
            go_roundg g
            case measure => omega
            case rel =>
              have hl := H2.out.len
              have hp := HP.out
              rw [← hl] at hp
              obtain ⟨_, t2, t3⟩ := takeL_part (nc := nc) H2.out.ok hp hdf (by rw [hl]; omega) HX0.out
              rw [← X3.out, hl] at t3
              rw [← X3.out] at t2
              exact ⟨d + 1, col + 1, _, rs3, by omega, H3.out.setCol (col + 1), t3, t2.trans HSp.out⟩
      · obtain rfl : d = n := by omega
        have e2 : ¬ (d : Int) < (d : Int) := by omega
        go_wp2_with fail
        go_quiet (fail)
        go_wp2_with fail
        rw [Exit.noGoto_normal]
        go_end0
        exact ⟨rfl, d, col, l, rs', HWk.out.later ((Keep.refl _).drewN _), HP.out, HSp.out, Or.inr rfl, by omega⟩
end Go.Proofs.YtcjjhblgejkkeaaGreat
/- The landed code of layer 6: lists of rows copied; the reduced matrix, its rank. -/
namespace Go.Proofs.YtcjjhblgejkkeaaGreat
open Go.RowKit Lin
set_option linter.unusedVariables false
set_option linter.unusedSimpArgs false
theorem OwnRows.lit0 (w : World) (t : TypeId) : OwnRows (w.alloc (.cells #[] t)) w.heap.size t (some ⟨w.heap.size, 0, none⟩) 0 0 [] := by
  have h := World.ownsRow_lit (w := w) (base := w.heap.size) (e := t) (size := 1) #[] 0 (Nat.le_refl _) (by unfold maxLen; omega) (by simp)
  simpa [OwnRows] using h
theorem OwnRows.lower {w : World} {base base' e n c : Nat} {A : Option Addr} {rs : List RowV} (h : OwnRows w base e A n c rs) (hb : base' ≤ base) : OwnRows w base' e A n c rs := by
  refine ⟨h.1, ?_⟩
  rcases h.2 with h1 | ⟨g, cap, cur, hv, hg, r⟩
  · exact Or.inl h1
  · exact Or.inr ⟨g, cap, cur, hv, Nat.le_trans hb hg, r⟩
theorem RowsIn.none_addr {w : World} {F : Nat → Prop} {n : Nat} {rs : List RowV} (h : RowsIn w F none n rs) : n = 0 := by
  rcases Nat.eq_zero_or_pos n with e | e
  · exact e
  · obtain ⟨b, off, e, _⟩ := h.2.2 e; cases e
set_option maxRecDepth 100000 in
theorem clonerows_any (n c : Nat) (A : Option Addr) (F : Nat → Prop) (rs : List RowV) (w : World) (h : RowsIn w F A n rs) (hF : ∀ b, F b → b < w.heap.size) (hn : n ≤ 1000000) :
    Calls Tryz.prog 133 #[.slice A n c] w fun e w' => ∃ A' c', e = .returned (.slice A' n c') ∧ OwnRows w' w.heap.size 32 A' n c' rs ∧ Keep w w' := by
  cases A with
  | none =>
    obtain rfl := h.none_addr
    obtain rfl : rs = [] := List.eq_nil_of_length_eq_zero h.1
    have hq := fun (w : World) => Lib.run_eql_slice_nil (P := Tryz.prog) w 47 32 none 0 c 0 0 Tryz.underlying47
    clear h
    go_enter Tryz.func133, Tryz.ntmps133
    go_wp2_with fail
    go_ret
    exact ⟨none, 0, rfl, OwnRows.none_ _ _ _, Keep.refl _⟩
  | some ad =>
    have hq := fun (w : World) => Lib.run_eql_slice_nil (P := Tryz.prog) w 47 32 (some ad) n c 0 0 Tryz.underlying47
    have HO := OwnRows.lit0 w 32
    have HH := Lib.hid h
    have HF := Lib.hid hF
    clear h hF
    go_enter Tryz.func133, Tryz.ntmps133
    go_wp2_with (at_builtin; refine wpList_append_rows rfl _ _ 47 rfl Tryz.underlying47 infoRow rfl HO rfl HH.out.1 (fun hp => ?c1) (by omega) (by simp) ?_)
    case c1 =>
      obtain ⟨b, off, e, hb, hc⟩ := HH.out.2.2 hp
      exact ⟨b, off, e, fun i r hi => (World.cell?_alloc_past _ _ _ (HF.out b hb)).trans (hc i r hi)⟩
    intro A' c' w' hown hgr _
    have hk : Keep w w' := ((Keep.refl w).alloc #[] 32).grown hgr (fun k hk => by cases hk; exact Nat.le_refl _)
    go_wp2_with fail
    go_ret
    exact ⟨A', c', rfl, by simpa using hown, hk⟩
theorem RowsIn.take {w : World} {F : Nat → Prop} {A : Option Addr} {n d : Nat} {rs : List RowV} (h : RowsIn w F A n rs) (hd : d ≤ n) : RowsIn w F A d (rs.take d) :=
  ⟨by rw [List.length_take, h.1]; omega, fun r hr => h.2.1 r (List.mem_of_mem_take hr), fun hp => by
    obtain ⟨b, off, e, hb, hc⟩ := h.2.2 (by omega)
    refine ⟨b, off, e, hb, fun i r hi => hc i r ?_⟩
    rw [List.getElem?_take] at hi
    split at hi
    · exact hi
    · cases hi⟩
theorem Wk.rowsIn {W w : World} {b : Nat} {A : Option Addr} {n cap nc B d col q : Nat} {rs : List RowV} (h : Wk W w b A n cap nc B d col q rs) : RowsIn w (· < w.heap.size) A n rs :=
  RowsIn.of_own h.own (fun r hr => (h.rows r hr).2.mono fun k hk => by have := h.keep.size; omega) (fun k hk => (h.own.lt k hk).2)
/-- A new work matrix over rows that were given. -/
theorem Wk.made {W w1 : World} {A A1 : Option Addr} {F : Nat → Prop} {n c1 nc b : Nat} {rs : List RowV} (h : RowsIn W F A n rs) (hF : ∀ b, F b → b < W.heap.size) (ho : OwnRows w1 W.heap.size 32 A1 n c1 rs) (k : Keep W w1) (hrn : ∀ r ∈ rs, r.n = nc) (hb : w1.heap.size = b) :
    Wk W (w1.alloc (.cells #[.slice A1 n c1, .int .i64 0, .int .i64 0] 199)) b A1 n c1 nc (b + 1) 0 0 0 rs := by
  subst hb
  refine ⟨heap_alloc_new _ _, ho.alloc _, fun j hj => by have := (ho.lt j hj).2; omega, ⟨k.size, by omega, by simp⟩, fun r hr => ⟨hrn r hr, ?_⟩, fun i r hi => by omega, k.alloc _ _⟩
  exact ((h.2.1 r hr).turned (Turned.of_keep (F := fun _ => False) (k.alloc #[.slice A1 n c1, .int .i64 0, .int .i64 0] 199)) fun _ _ e => e).mono fun j hj => Or.inl (hF j hj)
set_option maxRecDepth 100000 in
set_option maxHeartbeats 1000000 in
theorem mreduce_in (n c : Nat) (A : Option Addr) (F : Nat → Prop) (rs : List RowV) (w : World) (h : RowsIn w F A n rs) (hF : ∀ b, F b → b < w.heap.size) (hn : n ≤ 1000) (hc : sizeC (rowsXs rs) ≤ 1000) (hf : fits (rowsXs rs)) :
    Calls Tryz.prog 120 #[.slice A n c] w (NewOwned w (reduceN (rowsXs rs)) 0) := by
  have hlr : (rowsXs rs).length = n := by rw [rowsXs_len, h.1]
  obtain ⟨nc, hnc⟩ : ∃ nc, sizeC (rowsXs rs) = nc := ⟨_, rfl⟩
  rw [hnc] at hc
  have HS : Hid (sizeR (rowsXs rs) = n ∧ sizeC (rowsXs rs) = nc ∧ sizeE (rowsXs rs) = 0) := ⟨by rw [sizeR, if_pos hf, hlr], hnc, by rw [sizeE, if_pos hf]⟩
  have HRN : Hid (∀ r ∈ rs, r.n = nc) := fun r hr => (fits_rows hf h r hr).trans hnc
  have HRD : Hid (reduceN (rowsXs rs) = reduceTo nc (rowsXs rs) n ∧ RowsOk nc (rowsXs rs) ∧ (rowsXs rs).length = n) := ⟨by rw [reduceN_fits hf, hnc, hlr], h.ok HRN.out, hlr⟩
  have H := Lib.hid h
  have HF := Lib.hid hF
  clear h hF hf hnc hlr
  go_enter Tryz.func120, Tryz.ntmps120
  go_wp2_with fail
  refine (msize_eq n c A F rs _ H.out (by omega)).mono ?_
  rw [HS.out.1, HS.out.2.1, HS.out.2.2]
  rintro e w1 ⟨rfl, rfl⟩
  go_wp2_with fail
  refine (clonerows_any n c A F rs _ H.out HF.out (by omega)).mono ?_
  rintro e w1 ⟨A1, c1, rfl, o1, k1⟩
  have O1 := Lib.hid o1
  have K1 := Lib.hid k1
  clear o1 k1
  go_wp2_with fail
  have hm := Wk.made H.out HF.out O1.out K1.out HRN.out rfl
  refine (mwork_any hm (Nat.le_refl _) hn (by omega)).mono ?_
  rintro e w2 ⟨rfl, d, col, l, rs2, h2, p2, s2, hcd, _⟩
  obtain ⟨c0, c1', _, _⟩ := h2.cells
  have hd := p2.le
  have hcap := ownrows_le h2.own
  have H2 := Lib.hid h2
  have HR : Hid (rowsXs (rs2.take d) = reduceN (rowsXs rs)) := by
    show _ = _
    have hl := h2.len
    have hp : Part (rowsXs rs2).length d col (fn (rowsXs rs2)) l := by rw [hl]; exact p2
    have := part_reduced HRD.out.2.1 h2.ok (hl.trans HRD.out.2.2.symm) s2 hp (by rw [hl]; omega)
    rw [HRD.out.2.2] at this
    rw [HRD.out.1, ← this]; simp [rowsXs, List.map_take]
  have hsl := fun (w : World) => run_slice_h (P := Tryz.prog) (w := w) 47 A1 n c1 Tryz.underlying47 .i64 (d : Int) (by omega) (by omega)
  clear hm h2 p2 s2 hcd
  go_wp2_with fail
  refine (clonerows_any d c1 A1 _ (rs2.take d) _ (H2.out.rowsIn.take hd) (fun _ e => e) (by omega)).mono ?_
  rintro e w3 ⟨A3, c3, rfl, o3, k3⟩
  have O3 := Lib.hid o3
  have K3 := Lib.hid k3
  clear o3 k3
  go_wp2_with fail
  go_ret2
  have hk := H2.out.keep
  have hb := H2.out.hb
  refine ⟨A3, d, c3, rfl, rs2.take d, O3.out.lower hk.size, fun r hr => ?_, HR.out, hk.trans K3.out⟩
  obtain ⟨i, hi, e⟩ := List.getElem_of_mem hr
  rw [List.length_take] at hi
  have hr2 : rs2[i]? = some r := by
    rw [List.getElem_take] at e
    rw [← e]; exact List.getElem?_eq_getElem (by omega)
  exact ((H2.out.done i r (by omega) hr2).lower (by omega)).keep K3.out
theorem mreduce_any (n c : Nat) (A : Option Addr) (F : Nat → Prop) (rs : List RowV) (w : World) (h : RowsIn w F A n rs) (hF : ∀ b, F b → b < w.heap.size) (hn : n ≤ 1000) (hc : sizeC (rowsXs rs) ≤ 1000) :
    Calls Tryz.prog 120 #[.slice A n c] w (NewOwned w (reduceN (rowsXs rs)) (sizeE (rowsXs rs))) := by
  by_cases hf : fits (rowsXs rs)
  · rw [sizeE, if_pos hf]
    exact mreduce_in n c A F rs w h hF hn hc hf
  · rw [reduceN, if_neg hf, sizeE, if_neg hf]
    have HS : Hid (sizeE (rowsXs rs) = 21) := by show _ = _; rw [sizeE, if_neg hf]
    obtain ⟨nr, hnr⟩ : ∃ nr, sizeR (rowsXs rs) = nr := ⟨_, rfl⟩
    obtain ⟨nc, hnc⟩ : ∃ nc, sizeC (rowsXs rs) = nc := ⟨_, rfl⟩
    clear hf hc
    go_enter Tryz.func120, Tryz.ntmps120
    go_wp2_with fail
    refine (msize_eq n c A F rs _ h (by omega)).mono ?_
    rw [hnr, hnc, HS.out]
    rintro e w1 ⟨rfl, rfl⟩
    go_wp2_with fail
    go_ret2
    exact NewOwned.nothing (Keep.refl w) 21
end Go.Proofs.YtcjjhblgejkkeaaGreat
/- The landed code of layer 6: the inverse. -/
namespace Go.Proofs.YtcjjhblgejkkeaaGreat
open Go.RowKit Lin
set_option linter.unusedVariables false
set_option linter.unusedSimpArgs false
/-- A work matrix whose rows are being filled in. -/
structure WkF (W w : World) (b g n B : Nat) (rs : List RowV) : Prop where
  cell : w.heap[b]? = some (.cells #[.slice (some ⟨g, 0, none⟩) n n, .int .i64 0, .int .i64 0] 199 (0, 0))
  own : OwnRows w W.heap.size 32 (some ⟨g, 0, none⟩) n n rs
  hb : W.heap.size ≤ b ∧ b < B ∧ B ≤ w.heap.size ∧ W.heap.size ≤ g ∧ g < B ∧ g ≠ b
  rows : ∀ r ∈ rs, Own w B 5 r.A r.n r.c r.xs
  keep : Keep W w
namespace WkF
variable {W w w' : World} {b g n B : Nat} {rs : List RowV}
theorem made (W : World) (hn : n ≤ 1000000) (hg : W.heap.size = g) :
    WkF W ((W.alloc (.cells (madeCells #[.slice none 0 0] n) 32)).alloc (.cells #[.slice (some ⟨g, 0, none⟩) n n, .int .i64 0, .int .i64 0] 199)) (g + 1) g n (g + 2) (List.replicate n ⟨none, 0, 0, []⟩) := by
  subst hg
  have hf := Fill.made (Keep.refl W) hn rfl
  refine ⟨?_, hf.own.alloc _, ⟨by omega, by omega, by simp, Nat.le_refl _, by omega, by omega⟩, fun r hr => ?_, hf.keep.alloc _ _⟩
  · have := heap_alloc_new (W.alloc (.cells (madeCells #[.slice none 0 0] n) 32)) (.cells #[.slice (some ⟨W.heap.size, 0, none⟩) n n, .int .i64 0, .int .i64 0] 199)
    rwa [show (W.alloc (.cells (madeCells #[.slice none 0 0] n) 32)).heap.size = W.heap.size + 1 by simp] at this
  · obtain ⟨_, rfl⟩ := List.mem_replicate.1 hr
    exact Own.none_ _ _ _
theorem later (h : WkF W w b g n B rs) (k : Keep w w') : WkF W w' b g n B rs := by
  have hb := h.hb
  have hs := k.size
  exact ⟨(k.block b (by omega)).trans h.cell, h.own.keep k, ⟨hb.1, hb.2.1, by omega, hb.2.2.2⟩, fun r hr => (h.rows r hr).keep k, h.keep.trans k⟩
theorem cells (h : WkF W w b g n B rs) : w.cell? ⟨b, 0, none⟩ = some (.slice (some ⟨g, 0, none⟩) n n) := by
  have hc := h.cell
  simp [World.cell?, hc]
theorem any (h : WkF W w b g n B rs) {i : Nat} (hi : i < n) : ∃ v, w.cell? ⟨g, i, none⟩ = some v := by
  have hl : i < rs.length := by rw [h.own.length]; exact hi
  have hc := World.ownsRow.cells h.own (g := g) rfl i rs[i].val (by rw [List.getElem?_map, List.getElem?_eq_getElem hl]; rfl)
  have ha : (⟨g, 0, none⟩ : Addr).add i = ⟨g, i, none⟩ := by unfold Addr.add; split <;> simp_all
  rw [ha] at hc
  exact ⟨_, hc⟩
theorem frozen (h : WkF W w b g n B rs) (i : Nat) : w.frozen? ⟨g, i, none⟩ = false := World.ownsRow.frozenAt h.own i
theorem set (h : WkF W w b g n B rs) {r : RowV} (i : Nat) (o : Own w B 5 r.A r.n r.c r.xs) : WkF W (w.setCell ⟨g, i, none⟩ (.slice r.A r.n r.c)) b g n B (rs.set i r) := by
  have hb := h.hb
  have ht : Turned (fun b => b = g) w (w.setCell ⟨g, i, none⟩ (.slice r.A r.n r.c)) := Turned.set (F := fun b => b = g) _ _ _ rfl
  have hs : (w.setCell ⟨g, i, none⟩ (.slice r.A r.n r.c)).heap.size = w.heap.size := by simp [World.setCell]
  refine ⟨(ht.block b (by omega) (fun e => hb.2.2.2.2.2 e.symm)).trans h.cell, h.own.stored r, ⟨hb.1, hb.2.1, by rw [hs]; exact hb.2.2.1, hb.2.2.2⟩, fun r' hr' => ?_, h.keep.setCell hb.2.2.2.1 _⟩
  have ho : Own w B 5 r'.A r'.n r'.c r'.xs := by
    rcases List.mem_or_eq_of_mem_set hr' with h1 | h1
    · exact h.rows r' h1
    · subst h1; exact o
  exact ho.turned ht fun j hj e => by have := (ho.1.lt j hj).1; omega
theorem wk (h : WkF W w b g n B rs) {nc : Nat} (hn : ∀ r ∈ rs, r.n = nc) : Wk W w b (some ⟨g, 0, none⟩) n n nc B 0 0 0 rs := by
  have hb := h.hb
  exact ⟨h.cell, h.own, fun k hk => by
    have hk : g = k := by simpa [Value.ownBlock] using hk
    subst hk; exact ⟨hb.2.2.2.2.1, hb.2.2.2.2.2⟩, ⟨hb.1, hb.2.1, hb.2.2.1⟩, fun r hr => ⟨hn r hr, (h.rows r hr).lies.mono fun j hj => Or.inr ((h.rows r hr).1.lt j hj)⟩, fun i r hi => by omega, h.keep⟩
end WkF
theorem joinN_two (a b : RowV) : joinN [a, b] = a.xs ++ b.xs := by simp [joinN]
end Go.Proofs.YtcjjhblgejkkeaaGreat
