/- Rows in memory as matrices: words that no function of the document's own is needed for. -/
import Derived.Test.YtcjjhblgejkkeaaGreatMat
import Derived.Test.YtcjjhblgejkkeaaGreatRowsApp
import Derived.Test.YtcjjhblgejkkeaaGreatNew
import Derived.OwnWalk
namespace Go.Proofs.YtcjjhblgejkkeaaGreat
open Go.RowKit Lin
set_option linter.unusedSimpArgs false
set_option linter.unusedVariables false
theorem infoRow : (Tryz.prog.info? 32).map (fun i => (i.zero, i.size, i.bytes)) = some (some (.slice none 0 0), 1, 24) := by kernel_rfl
theorem rowsXs_at {rs : List RowV} {k : Nat} {r : RowV} (h : rs[k]? = some r) : (rowsXs rs).getD k [] = r.xs := by
  simp [rowsXs, List.getD_eq_getElem?_getD, h]
theorem rowsXs_len (rs : List RowV) : (rowsXs rs).length = rs.length := by simp [rowsXs]
theorem fits_iff {rs : List RowV} {n : Nat} {r0 : RowV} (h0 : rs[0]? = some r0) (hl : ∀ r ∈ rs, r.xs.length = r.n) : fits (rowsXs rs) ↔ ∀ (j : Nat) (r : RowV), rs[j]? = some r → r.n = r0.n := by
  have hh : (rowsXs rs).headD [] = r0.xs := by
    cases rs with
    | nil => simp at h0
    | cons a l => simp at h0; subst h0; rfl
  have hm0 := List.mem_of_getElem? h0
  unfold fits
  rw [hh, hl r0 hm0]
  constructor
  · intro h j r hj
    have hm := List.mem_of_getElem? hj
    have := h r.xs (List.mem_map.2 ⟨r, hm, rfl⟩)
    rw [hl r hm] at this; exact this
  · intro h x hx
    obtain ⟨r, hm, rfl⟩ := List.mem_map.1 hx
    obtain ⟨j, hj, e⟩ := List.getElem_of_mem hm
    rw [hl r hm]
    exact h j r (by rw [List.getElem?_eq_getElem hj, e])
/-- What a call hands back that lays rows in new memory, and an error. -/
def NewRows (w : World) (M : List (List Nat)) (er : Int) (e : Ending) (w' : World) : Prop :=
  ∃ A n c, e = .returned (.tuple #[.slice A n c, .int .i64 er]) ∧ ∃ rs, RowsIn w' (fun b => w.heap.size ≤ b ∧ b < w'.heap.size) A n rs ∧ n ≤ c ∧ rowsXs rs = M ∧ Keep w w'
theorem NewRows.none_ (w : World) (er : Int) : NewRows w [] er (.returned (.tuple #[.slice none 0 0, .int .i64 er])) w := ⟨none, 0, 0, rfl, [], RowsIn.nothing _ _ _, Nat.le_refl _, rfl, Keep.refl w⟩
theorem ownrows_le {w : World} {base n c : Nat} {e : TypeId} {A : Option Addr} {rs : List RowV} (h : OwnRows w base e A n c rs) : n ≤ c := by
  rcases h.2 with ⟨hv, h0⟩ | ⟨g, cap, cur, hv, _, _, hle, _⟩
  · omega
  · injection hv with _ _ h3; omega
/-- Rows in new memory, being laid. -/
def Laying (W w : World) (A : Option Addr) (n c : Nat) (rs : List RowV) : Prop :=
  OwnRows w W.heap.size 32 A n c rs ∧ (∀ r ∈ rs, LiesIn w (fun b => W.heap.size ≤ b ∧ b < w.heap.size ∧ ¬ (Value.slice A n c).ownBlock = some b) r) ∧ Keep W w
namespace Laying
variable {W w w' : World} {A : Option Addr} {n c : Nat} {rs : List RowV}
theorem nothing (W : World) : Laying W W none 0 0 [] := ⟨OwnRows.none_ _ _ _, fun r hr => by simp at hr, Keep.refl W⟩
theorem later (h : Laying W w A n c rs) (k : Keep w w') : Laying W w' A n c rs :=
  ⟨h.1.keep k, fun r hr => ((h.2.1 r hr).turned (Turned.of_keep (F := fun _ => False) k) fun _ _ e => e).mono fun b hb => ⟨hb.1, Nat.lt_of_lt_of_le hb.2.1 k.size, hb.2.2⟩, h.2.2.trans k⟩
/-- A row more: its own block apart from the rows' block. -/
theorem more {A2 : Option Addr} {c2 : Nat} {r : RowV} {o : Obj} (h : Laying W w A n c rs) (hr : LiesIn w (fun b => W.heap.size ≤ b ∧ b < w.heap.size ∧ ¬ (Value.slice A n c).ownBlock = some b) r) (o2 : OwnRows w' W.heap.size 32 A2 (n + 1) c2 (rs ++ [r])) (k : (w.alloc o).grownBy w' (Value.slice A n c).ownBlock)
    (hb : (Value.slice A2 (n + 1) c2).ownBlock = (Value.slice A n c).ownBlock ∨ (Value.slice A2 (n + 1) c2).ownBlock = some (w.alloc o).heap.size) : Laying W w' A2 (n + 1) c2 (rs ++ [r]) := by
  have ka : Keep w (w.alloc o) := Below.alloc (Keep.refl w) (Nat.le_refl _) o
  have kT : Turned (fun b => (Value.slice A n c).ownBlock = some b) w w' := (Turned.of_keep ka).trans (Turned.of_grown (F := fun b => (Value.slice A n c).ownBlock = some b) k fun i e => e) fun i e => Or.inl e
  have kk : Keep W w' := kT.keep h.2.2 fun b e => h.1.rowLe b e
  refine ⟨o2, fun r' hr' => ?_, kk⟩
  have hall : ∀ r' ∈ rs ++ [r], LiesIn w (fun b => W.heap.size ≤ b ∧ b < w.heap.size ∧ ¬ (Value.slice A n c).ownBlock = some b) r' := fun r' hr' => by
    rw [List.mem_append, List.mem_singleton] at hr'
    rcases hr' with hr' | rfl
    · exact h.2.1 r' hr'
    · exact hr
  refine ((hall r' hr').turned kT fun b hb e => hb.2.2 e).mono fun b hb' => ⟨hb'.1, Nat.lt_of_lt_of_le hb'.2.1 kT.size, fun e => ?_⟩
  rcases hb with h1 | h1
  · rw [h1] at e; exact hb'.2.2 e
  · rw [h1] at e
    injection e with e
    have := ka.size
    simp at e; omega
theorem done (h : Laying W w A n c rs) (er : Int) : NewRows W (rowsXs rs) er (.returned (.tuple #[.slice A n c, .int .i64 er])) w :=
  ⟨A, n, c, rfl, rs, RowsIn.of_own h.1 (fun r hr => (h.2.1 r hr).mono fun b hb => ⟨hb.1, hb.2.1⟩) (fun b hb => h.1.lt b hb), ownrows_le h.1, rfl, h.2.2⟩
end Laying
/-- A slice of one's own, as a row apart from the rows' block. -/
theorem row_apart {W w : World} {A Ar : Option Addr} {n c nr cr : Nat} {rs : List RowV} {xs : List Nat} (h : Laying W w A n c rs) (o : Own w W.heap.size 5 Ar nr cr xs) : LiesIn w (fun b => W.heap.size ≤ b ∧ b < w.heap.size ∧ ¬ (Value.slice A n c).ownBlock = some b) ⟨Ar, nr, cr, xs⟩ :=
  o.lies.mono fun b hb => ⟨(o.1.lt b hb).1, (o.1.lt b hb).2, fun e => by
    rcases blocks_apart o h.1 (by decide) with z | z
    · rw [z] at hb; cases hb
    · exact z (hb.trans e.symm)⟩
theorem unit_set (n k : Nat) : (List.replicate n 0).set k 1 = vUnit n k := by
  refine list_ext (by simp [vUnit, tab_length]) fun i hi => ?_
  simp at hi
  rw [vUnit, tab_getD, if_pos hi]
  by_cases e : i = k
  · subst e; simp [List.getD_eq_getElem?_getD, hi]
  · simp [List.getD_eq_getElem?_getD, List.getElem?_set, Ne.symm e, hi, e]
theorem colN_all {rs : List RowV} (h : ∀ r ∈ rs, AllB r.xs) (k i : Nat) : AllB (colN (rowsXs rs) k i) := fun x hx => by
  obtain ⟨j, _, rfl⟩ := List.mem_map.1 hx
  cases hr : rs[j]? with
  | none => simp [rowsXs, List.getD_eq_getElem?_getD, hr]
  | some r => rw [rowsXs_at hr]; exact (h r (List.mem_of_getElem? hr)).getD k
theorem fits_len {rs : List RowV} (hf : fits (rowsXs rs)) {F : Nat → Prop} {w : World} {A : Option Addr} {n : Nat} (h : RowsIn w F A n rs) {j : Nat} {r : RowV} (hj : rs[j]? = some r) : r.n = ((rowsXs rs).headD []).length := by
  have hm := List.mem_of_getElem? hj
  rw [← (h.2.1 r hm).1]
  exact hf r.xs (List.mem_map.2 ⟨r, hm, rfl⟩)
theorem RowsIn.ok {w : World} {F : Nat → Prop} {A : Option Addr} {n nc : Nat} {rs : List RowV} (h : RowsIn w F A n rs) (hn : ∀ r ∈ rs, r.n = nc) : RowsOk nc (rowsXs rs) := fun x hx => by
  obtain ⟨r, hr, rfl⟩ := List.mem_map.1 hx
  exact ⟨by rw [(h.2.1 r hr).1, hn r hr], (h.2.1 r hr).2.1⟩
theorem fits_rows {rs : List RowV} (hf : fits (rowsXs rs)) {F : Nat → Prop} {w : World} {A : Option Addr} {n : Nat} (h : RowsIn w F A n rs) : ∀ r ∈ rs, r.n = sizeC (rowsXs rs) := fun r hr => by
  obtain ⟨j, hj, e⟩ := List.getElem_of_mem hr
  rw [sizeC, if_pos hf]
  exact fits_len hf h (j := j) (by rw [List.getElem?_eq_getElem hj, e])
theorem prodN_succ {M N : List (List Nat)} {n c k : Nat} {r : List Nat} (h : M[k]? = some r) : prodN M N n c (k + 1) = prodN M N n c k ++ [rowN r N n c] := by
  rw [prodN, List.take_add_one, h]; simp [prodN]
theorem rowsXs_get {rs : List RowV} {k : Nat} {r : RowV} (h : rs[k]? = some r) : (rowsXs rs)[k]? = some r.xs := by simp [rowsXs, h]
/-- A row cut at its head. -/
def cutR (s : Nat) (r : RowV) : RowV := ⟨dropA r.A r.c s, r.n - s, r.c - s, r.xs.drop s⟩
theorem LiesIn.cutR {w : World} {F : Nat → Prop} {r : RowV} (h : LiesIn w F r) (s : Nat) : LiesIn w F (cutR s r) := by
  refine ⟨by show (r.xs.drop s).length = r.n - s; rw [List.length_drop, h.1], fun x hx => h.2.1 x (List.mem_of_mem_drop hx), by have := h.2.2.1; show r.n - s ≤ r.c - s; omega, fun hp => ?_⟩
  have hp2 : 0 < r.n - s := hp
  obtain ⟨b, off, e, hb, hc⟩ := h.2.2.2 (by omega)
  refine ⟨b, off + s, by show dropA r.A r.c s = _; rw [e]; exact dropA_some b off r.c s (by have := h.2.2.1; omega), hb, fun i hi => ?_⟩
  have hi2 : i < r.n - s := hi
  show w.cell? ⟨b, off + s + i, none⟩ = some (.int .u8 (((r.xs.drop s).getD i 0 : Nat) : Int))
  rw [Nat.add_assoc, hc (s + i) (by omega)]
  simp [List.getD_eq_getElem?_getD, List.getElem?_drop]
theorem rowsXs_cutR (s : Nat) (rs : List RowV) : rowsXs (rs.map (cutR s)) = (rowsXs rs).map (List.drop s) := by simp [rowsXs, cutR, Function.comp_def]
theorem rowsXs_get' {rs : List RowV} {k : Nat} {r : RowV} (h : rs[k]? = some r) : (rowsXs rs)[k]? = some r.xs := by simp [rowsXs, h]
theorem LiesIn.str {w : World} {F : Nat → Prop} {r : RowV} (h : LiesIn w F r) (hF : ∀ b, F b → b < w.heap.size) (k : Nat) : (convert 32 9 (.slice r.A r.n r.c)).run Tryz.prog (w.drewN k) = .ok (.string (strN r.xs)) (w.drewN k) :=
  run_str (w := w.drewN k) (h.bytes hF) Tryz.underlying32 Tryz.underlying5 Tryz.underlying9 r.c
theorem rowsXs_take {rs : List RowV} {k : Nat} {r : RowV} (h : rs[k]? = some r) : rowsXs (rs.take (k + 1)) = rowsXs (rs.take k) ++ [r.xs] := by
  rw [List.take_add_one, h]; simp [rowsXs]
theorem rowsXs_ne {rs rs' : List RowV} {k : Nat} {r r' : RowV} (h : rs[k]? = some r) (h' : rs'[k]? = some r') (hne : r.xs ≠ r'.xs) : rowsXs rs ≠ rowsXs rs' := fun e => by
  have := congrArg (fun l => l[k]?) e
  simp [rowsXs, h, h'] at this
  exact hne this
end Go.Proofs.YtcjjhblgejkkeaaGreat
