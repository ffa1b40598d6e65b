/- Contracts of the landed vector code: combinations. -/
import Derived.Test.YtgelalbmhllccaaGreatQad
import Derived.Test.YtgelalbmhllccaaGreatQab
import Derived.StillTailTactics
import Derived.Laws.Rows
import Derived.Test.YtgelalbmhllccaaGreatQaa
import Derived.Test.YtgelalbmhllccaaGreatRows
import Derived.WalkKit
import Derived.WalkMore
import Derived.Lib.Hide
import Derived.ScopeJumps
import Derived.Deep.LoopGhost
import Derived.Deep.DeepCutAuto
import Derived.Deep.CutBlock
import Derived.WalkLawsBesides
import Derived.WalkSpells
namespace Go.Proofs.YtgelalbmhllccaaGreat
open Go.RowKit
set_option linter.unusedVariables false
set_option linter.unusedSimpArgs false

set_option maxRecDepth 100000 in
theorem fit_any (B n ca : Nat) (A : Option Addr) (rs : List RowV) (w : World) (h : RowsAt w B A n rs) (hn : n ≤ 140737488351232) (r0 : RowV) (hr0 : rs[0]? = some r0) :
    Calls Tryz.prog 140 #[.slice A n ca] w fun e w' => e = .returned (.bool (decide (∀ r ∈ rs, r.n = r0.n))) ∧ ∃ m, w' = w.drewN m := by
  have h0 : 0 < n := by
    rcases Nat.eq_zero_or_pos n with e | e
    · rw [← h.1] at e
      have := List.eq_nil_of_length_eq_zero e
      subst this; cases hr0
    · exact e
  obtain ⟨b, off, r, rfl, hb, hr, hc, hby, hrn, _⟩ := h.at_ (k := 0) h0
  obtain rfl : r0 = r := Option.some.inj (hr0.symm.trans hr)
  have e0 : (0 : Int) < (n : Int) := by omega
  have HH := Lib.hid h
  have HR := Lib.hid hr0
  rw [Nat.add_zero] at hc
  clear h hr0 hr hby
  go_enter Tryz.func140, Tryz.ntmps140
  go_wp2_with fail
  go_loopw [6] (fun i wr => ∃ k : Nat, k ≤ n ∧ i = .int .i64 k ∧ (∃ m, wr = w.drewN m) ∧ ∀ j r, j < k → rs[j]? = some r → r.n = r0.n) (fun i _ => n - (intOf i).toNat)
  case atStart => exact ⟨0, by omega, rfl, ⟨0, rfl⟩, fun j r hj => by omega⟩
  case round =>
    obtain ⟨k, hk, rfl, ⟨m, rfl⟩, hall⟩ := hrel
    have HA := Lib.hid hall
    clear hall
    by_cases hlt : k < n
    · obtain ⟨b', off', r, e, hb', hr, hck, hby, hrn', _⟩ := HH.out.at_ hlt
      injection e with e
      injection e with e1 e2
      subst e1 e2
      have HRK := Lib.hid hr
      have e1 : (0 : Int) ≤ (k : Int) := Int.natCast_nonneg _
      have e2 : (k : Int) < (n : Int) := by omega
      clear hby hr
      by_cases hd : r.n = r0.n
      · rw [hd] at hck
        have bd : ((r0.n : Int) != (r0.n : Int)) = false := by simp
        have HD := Lib.hid hd
        clear hd
        go_wp2_with fail
        go_quiet (fail)
        go_wp2_with fail
        have HA2 : Hid (∀ j r, j < k + 1 → rs[j]? = some r → r.n = r0.n) := fun j r' hj hr' => by
          by_cases e : j = k
          · subst e
            rw [HRK.out] at hr'
            injection hr' with hr'
            subst hr'
            exact HD.out
          · exact HA.out j r' (by omega) hr'
        go_round
        case rel => exact ⟨k + 1, by omega, by go_num, ⟨_, rfl⟩, HA2.out⟩
        case measure => simp [intOf]; omega
      · have bd : ((r.n : Int) != (r0.n : Int)) = true := by rw [bne_iff_ne]; omega
        have hno : ¬ ∀ r ∈ rs, r.n = r0.n := fun h => hd (h r (List.mem_of_getElem? HRK.out))
        have HC : Hid (decide (∀ r ∈ rs, r.n = r0.n) = false) := by show _ = _; exact decide_eq_false hno
        clear hno hd
        go_wp2_with fail
        go_quiet (fail)
        go_wp2_with fail
        go_ret
        exact ⟨by rw [HC.out]; rfl, _, World.drewN_drewN ..⟩
    · obtain rfl : k = n := by omega
      have hyes : ∀ r ∈ rs, r.n = r0.n := fun r hr => by
        obtain ⟨j, hj, e⟩ := List.getElem_of_mem hr
        exact HA.out j r (by rw [← HH.out.1]; exact hj) (by rw [← e]; exact List.getElem?_eq_getElem hj)
      have HC : Hid (decide (∀ r ∈ rs, r.n = r0.n) = true) := by show _ = _; exact decide_eq_true hyes
      clear hyes
      go_wp2_with fail
      go_ret
      exact ⟨by rw [HC.out]; rfl, _, rfl⟩
set_option maxRecDepth 100000 in
set_option maxHeartbeats 1000000 in
theorem vcomb_any (B B' n ca cb : Nat) (A A' : Option Addr) (rs : List RowV) (cs : List Nat) (w : World) (h : RowsAt w B A n rs) (h' : Bytes w B' A' n cs) (hB : B ≤ w.heap.size) (hB' : B' ≤ w.heap.size) (h0 : n ≠ 0) (hn : n ≤ 140737488351232)
    (r0 : RowV) (hr0 : rs[0]? = some r0) :
    Calls Tryz.prog 106 #[.slice A n ca, .slice A' n cb] w (NewPair w (combOf r0.n rs cs) (combErr r0.n rs)) := by
  have b0 : ((n : Int) == 0) = false := beq_eq_false_iff_ne.2 (by omega)
  have b1 : ((n : Int) != (n : Int)) = false := by simp
  obtain ⟨b, off, r, rfl, hb, hr, hc, hby, hrn, _⟩ := h.at_ (k := 0) (by omega)
  obtain rfl : r0 = r := Option.some.inj (hr0.symm.trans hr)
  have e0 : (0 : Int) < (n : Int) := by omega
  have hmk := run_make_bytes (P := Tryz.prog) Tryz.underlying43 info5 r0.n (by omega)
  have HH := Lib.hid h
  have HH' := Lib.hid h'
  have HR := Lib.hid hr0
  rw [Nat.add_zero] at hc
  clear h h' hr0 hr hby
  by_cases hf : ∀ r ∈ rs, r.n = r0.n
  · have HF := Lib.hid hf
    have HC : Hid (combOf r0.n rs cs = vComb r0.n (rowsOf rs) cs n) := by show _ = _; rw [combOf, if_pos hf, HH.out.1]
    have HE : Hid (combErr r0.n rs = 0) := by show _ = _; rw [combErr, if_pos hf]
    have hft := fit_any B n ca (some ⟨b, off, none⟩) rs w HH.out hn r0 HR.out
    rw [decide_eq_true hf] at hft
    have HFT := Lib.hid hft
    clear hf hft
    go_enter Tryz.func106, Tryz.ntmps106
    go_wp2_with fail
    refine HFT.out.mono ?_
    rintro e w1 ⟨rfl, m, rfl⟩
    go_wp2_with fail
    clear hc hmk
    go_loopw [29] (fun i wr => ∃ k : Nat, k ≤ n ∧ i = .int .i64 k ∧ Work w wr w.heap.size r0.n (w.heap.size + 1) (vComb r0.n (rowsOf rs) cs k)) (fun i _ => n - (intOf i).toNat)
    case atStart =>
      refine ⟨0, by omega, rfl, ?_⟩
      rw [vComb_zero]
      exact Work.start (w1 := w.drewN m) rfl (Keep.drewN (Keep.refl _) _) (by omega)
    case round =>
      obtain ⟨k, hk, rfl, hW⟩ := hrel
      by_cases hlt : k < n
      · obtain ⟨b', off', r, e, hb', hr, hck, hby, hrn', _⟩ := (HH.out.keep hB hW.keep).at_ hlt
        injection e with e
        injection e with e1 e2
        subst e1 e2
        obtain ⟨b3, o3, rfl, hb3, hc3⟩ := (HH'.out.keep hB' hW.keep).at_ hlt
        have hcc := HH'.out.all.getD k
        have hd : r.n = r0.n := HF.out r (List.mem_of_getElem? hr)
        have hs := vComb_succ r0.n k (rowsOf rs) cs
        rw [rowsOf_getD hr] at hs
        rw [hd] at hck
        have HBR : Hid (Bytes w B r.A r0.n r.xs) := by show Bytes _ _ _ _ _; rw [← hd]; exact (HH.out.2.1 r (List.mem_of_getElem? hr)).1
        generalize cs.getD k 0 = y at *
        have HS := Lib.hid hs
        have HW := Lib.hid hW
        have hsz := hW.keep.size
        have e1 : (0 : Int) ≤ (k : Int) := Int.natCast_nonneg _
        have e2 : (k : Int) < (n : Int) := by omega
        have HCK := Lib.hid hck
        clear hs hd hby hr hW hck
        go_wp2_with fail
        refine (times_at y wr.heap.size wr hcc rfl).mono ?_
        rintro e w5 ⟨rfl, ht, hk5⟩
        have hck := (hk5.cell (p := ⟨b, off + k, none⟩) (show b < _ by omega)).trans HCK.out
        have HT := Lib.hid ht
        have HK := Lib.hid hk5
        clear ht hk5 hc3
        obtain ⟨p, hp⟩ : ∃ p, wr.heap.size = p := ⟨_, rfl⟩
        rw [hp]
        rw [hp] at HT
        have HP := Lib.hid hp
        clear hp
        have hck2 : (w5.alloc (.cells #[.func (.func 153) #[] #[.pointer (some ⟨p, 0, none⟩), .pointer (some ⟨p + 1, 0, none⟩)]] 195)).cell? ⟨b, off + k, none⟩ = some (.slice r.A r0.n r.c) := (World.cell?_alloc_past _ _ _ (show b < _ by have := HK.out.size; omega)).trans hck
        have HCK2 := Lib.hid hck
        clear hck
        go_wp2_with fail
        have hpc : Held (w5.alloc (.cells #[.func (.func 153) #[] #[.pointer (some ⟨p, 0, none⟩), .pointer (some ⟨p + 1, 0, none⟩)]] 195)) w5.heap.size _ 195 := Held.new rfl _ 195
        have h5 : p + 1 < w5.heap.size := HT.out.1
        have hg5 : w.heap.size + 1 < p := by rw [← HP.out]; exact lt_of_block HW.out.held
        refine (comb_each (by simp [vComb, tab_length]) ?_ (HW.out.later (HK.out.alloc _ _)) hpc (HT.out.alloc _) (by omega) (by omega) (by omega) HBR.out hB hrn hcc).mono ?_
        · exact HW.out.own.2
        · rw [HS.out]
          rintro e w6 ⟨rfl, hW⟩
          have HW6 := Lib.hid hW
          clear hW hpc hck2
          go_wp2_with fail
          go_round
          case rel => exact ⟨k + 1, by omega, by go_num, HW6.out⟩
          case measure => simp [intOf]; omega
      · obtain rfl : k = n := by omega
        have c1 := hW.held.cell
        have HW := Lib.hid hW
        clear hW
        go_wp2_with fail
        go_ret2
        rw [HC.out, HE.out]
        exact ⟨_, _, _, rfl, HW.out.own, HW.out.keep⟩
  · have HC : Hid (combOf r0.n rs cs = []) := by show _ = _; rw [combOf, if_neg hf]
    have HE : Hid (combErr r0.n rs = 21) := by show _ = _; rw [combErr, if_neg hf]
    have hft := fit_any B n ca (some ⟨b, off, none⟩) rs w HH.out hn r0 HR.out
    rw [decide_eq_false hf] at hft
    have HFT := Lib.hid hft
    clear hf hft
    go_enter Tryz.func106, Tryz.ntmps106
    go_wp2_with fail
    refine HFT.out.mono ?_
    rintro e w1 ⟨rfl, m, rfl⟩
    go_wp2_with fail
    go_ret2
    rw [HC.out, HE.out]
    exact ⟨none, 0, 0, rfl, Own.none_ _ _ _, Keep.drewN (Keep.refl _) _⟩

end Go.Proofs.YtgelalbmhllccaaGreat
/- What the landed calls of layer 6 lay in new memory. -/
namespace Go.Proofs.YtgelalbmhllccaaGreat
open Go.RowKit
set_option linter.unusedVariables false
/-- Rows in new memory, each a slice of its own: what the code tells. -/
def OwnedRows (w w' : World) (A : Option Addr) (n c : Nat) (M : List (List Nat)) (rs : List RowV) : Prop :=
  OwnRows w' w.heap.size 43 A n c rs ∧ (∀ r ∈ rs, Own w' w.heap.size 5 r.A r.n r.c r.xs) ∧ rowsXs rs = M ∧ Keep w w'
def NewOwned (w : World) (M : List (List Nat)) (er : Int) (e : Ending) (w' : World) : Prop :=
  ∃ A n c, e = .returned (.tuple #[.slice A n c, .int .i64 er]) ∧ ∃ rs, OwnedRows w w' A n c M rs
theorem NewOwned.nothing {w w' : World} (k : Keep w w') (er : Int) : NewOwned w [] er (.returned (.tuple #[.slice none 0 0, .int .i64 er])) w' := ⟨none, 0, 0, rfl, [], OwnRows.none_ _ _ _, fun r hr => by simp at hr, rfl, k⟩
/-- Rows being filled in: those not yet laid are none. -/
structure Fill (W w : World) (g n : Nat) (rs : List RowV) : Prop where
  own : OwnRows w W.heap.size 43 (some ⟨g, 0, none⟩) n n rs
  rows : ∀ r ∈ rs, Own w W.heap.size 5 r.A r.n r.c r.xs
  keep : Keep W w
namespace Fill
variable {W w w' : World} {g n : Nat} {rs : List RowV}
theorem made {w1 : World} (k : Keep W w1) (hn : n ≤ 1000000) (hg : w1.heap.size = g) : Fill W (w1.alloc (.cells (madeCells #[.slice none 0 0] n) 43)) g n (List.replicate n ⟨none, 0, 0, []⟩) := by
  subst hg
  refine ⟨?_, fun r hr => ?_, k.alloc _ _⟩
  · have h := OwnRows.made w1 43 n hn
    refine ⟨h.1, ?_⟩
    rcases h.2 with h1 | ⟨g, cap, cur, hv, hg, r⟩
    · exact Or.inl h1
    · exact Or.inr ⟨g, cap, cur, hv, Nat.le_trans k.size hg, r⟩
  · obtain ⟨_, rfl⟩ := List.mem_replicate.1 hr
    exact Own.none_ _ _ _
theorem later (h : Fill W w g n rs) (k : Keep w w') : Fill W w' g n rs := ⟨h.own.keep k, fun r hr => (h.rows r hr).keep k, h.keep.trans k⟩
theorem length (h : Fill W w g n rs) : rs.length = n := h.own.length
theorem cell (h : Fill W w g n rs) {i : Nat} {r : RowV} (hi : rs[i]? = some r) : w.cell? ⟨g, i, none⟩ = some (.slice r.A r.n r.c) := by
  have hc := World.ownsRow.cells h.own (g := g) rfl i r.val (by rw [List.getElem?_map, hi]; rfl)
  have ha : (⟨g, 0, none⟩ : Addr).add i = ⟨g, i, none⟩ := by unfold Addr.add; split <;> simp_all
  rwa [ha] at hc
theorem any (h : Fill W w g n rs) {i : Nat} (hi : i < n) : ∃ v, w.cell? ⟨g, i, none⟩ = some v := by
  have hl : i < rs.length := by rw [h.length]; exact hi
  exact ⟨_, h.cell (List.getElem?_eq_getElem hl)⟩
theorem frozen (h : Fill W w g n rs) (i : Nat) : w.frozen? ⟨g, i, none⟩ = false := World.ownsRow.frozenAt h.own i
theorem lt (h : Fill W w g n rs) (hn : 0 < n) : W.heap.size ≤ g ∧ g < w.heap.size := by
  obtain ⟨g', e, h1, h2⟩ := h.own.block hn
  injection e with e
  injection e with e
  subst e
  exact ⟨h1, h2⟩
theorem set (h : Fill W w g n rs) {r : RowV} (i : Nat) (o : Own w W.heap.size 5 r.A r.n r.c r.xs) (hn : 0 < n) : Fill W (w.setCell ⟨g, i, none⟩ (.slice r.A r.n r.c)) g n (rs.set i r) := by
  have hfar : ∀ r' : RowV, Own w W.heap.size 5 r'.A r'.n r'.c r'.xs → Own (w.setCell ⟨g, i, none⟩ (.slice r.A r.n r.c)) W.heap.size 5 r'.A r'.n r'.c r'.xs := fun r' o' => o'.far (p := ⟨g, i, none⟩) (by
    rcases blocks_apart o' h.own (by decide) with z | z
    · rw [z]; simp
    · exact fun e => z (e.trans rfl)) _
  refine ⟨h.own.stored r, fun r' hr' => ?_, h.keep.setCell (h.lt hn).1 _⟩
  rcases List.mem_or_eq_of_mem_set hr' with h1 | h1
  · exact hfar r' (h.rows r' h1)
  · subst h1; exact hfar r' o
theorem done (h : Fill W w g n rs) {M : List (List Nat)} (hM : rowsXs rs = M) (er : Int) : NewOwned W M er (.returned (.tuple #[.slice (some ⟨g, 0, none⟩) n n, .int .i64 er])) w := ⟨_, n, n, rfl, rs, h.own, h.rows, hM, h.keep⟩
end Fill
end Go.Proofs.YtgelalbmhllccaaGreat
/- The landed code of layer 6: sizes, comparing, the identity. -/
namespace Go.Proofs.YtgelalbmhllccaaGreat
open Go.RowKit
set_option linter.unusedVariables false
set_option linter.unusedSimpArgs false
end Go.Proofs.YtgelalbmhllccaaGreat
/- The landed code of layer 6: transposes, products. -/
namespace Go.Proofs.YtgelalbmhllccaaGreat
open Go.RowKit
set_option linter.unusedVariables false
set_option linter.unusedSimpArgs false
/-- Rows being filled in, one of them number by number. -/
structure Fill2 (W w : World) (g n k : Nat) (rs : List RowV) (g2 m : Nat) (part : List Nat) : Prop where
  own : OwnRows w W.heap.size 43 (some ⟨g, 0, none⟩) n n (rs.set k ⟨some ⟨g2, 0, none⟩, m, m, part⟩)
  rows : ∀ r ∈ rs, Own w W.heap.size 5 r.A r.n r.c r.xs ∧ (Value.slice r.A r.n r.c).ownBlock ≠ some g2
  row : Own w W.heap.size 5 (some ⟨g2, 0, none⟩) m m part
  keep : Keep W w
namespace Fill2
variable {W w w' : World} {g n k g2 m : Nat} {rs : List RowV} {part : List Nat}
theorem ne (h : Fill2 W w g n k rs g2 m part) : g ≠ g2 := fun e => by
  rcases blocks_apart h.row h.own (by decide) with z | z
  · simp [Value.ownBlock] at z
  · exact z (by rw [e]; rfl)
theorem start (h : Fill W w g n rs) (hk : k < n) (hm : m ≤ 140737488355328) (hg2 : w.heap.size = g2) :
    Fill2 W ((w.alloc (.cells (madeCells #[.int .u8 0] m) 5)).setCell ⟨g, k, none⟩ (.slice (some ⟨g2, 0, none⟩) m m)) g n k rs g2 m (List.replicate m 0) := by
  subst hg2
  have hf := h.later ((Keep.refl w).alloc (madeCells #[.int .u8 0] m) 5)
  have ho := (Own.made w 5 m hm).lower h.keep.size
  have hs := hf.set (r := ⟨some ⟨w.heap.size, 0, none⟩, m, m, List.replicate m 0⟩) k ho (by omega)
  have hg := (h.lt (by omega)).2
  refine ⟨hs.own, fun r hr => ⟨?_, fun e => ?_⟩, ?_, hs.keep⟩
  · refine (hf.rows r hr).far (p := ⟨g, k, none⟩) ?_ _
    rcases blocks_apart (hf.rows r hr) hf.own (by decide) with z | z
    · rw [z]; simp
    · exact fun e => z (e.trans rfl)
  · have := ((h.rows r hr).1.lt _ e).2; omega
  · exact ho.far (p := ⟨g, k, none⟩) (by simp [Value.ownBlock]; omega) _
theorem cell (h : Fill2 W w g n k rs g2 m part) (hk : k < rs.length) : w.cell? ⟨g, k, none⟩ = some (.slice (some ⟨g2, 0, none⟩) m m) := by
  have hc := World.ownsRow.cells h.own (g := g) rfl k (.slice (some ⟨g2, 0, none⟩) m m) (by rw [List.getElem?_map, List.getElem?_set_self hk]; rfl)
  have ha : (⟨g, 0, none⟩ : Addr).add k = ⟨g, k, none⟩ := by unfold Addr.add; split <;> simp_all
  rwa [ha] at hc
theorem store (h : Fill2 W w g n k rs g2 m part) (i v : Nat) (hv : v < 256) : Fill2 W (w.setCell ⟨g2, i, none⟩ (.int .u8 (v : Int))) g n k rs g2 m (part.set i v) := by
  have ht : Turned (fun b => b = g2) w (w.setCell ⟨g2, i, none⟩ (.int .u8 (v : Int))) := Turned.set (F := fun b => b = g2) _ _ _ rfl
  refine ⟨?_, fun r hr => ⟨(h.rows r hr).1.far (p := ⟨g2, i, none⟩) (h.rows r hr).2 _, (h.rows r hr).2⟩, h.row.stored hv, h.keep.setCell ?_ _⟩
  · have z := h.own.turned ht fun b hb e => by
      have hb : g = b := by simpa [Value.ownBlock] using hb
      exact h.ne (hb.trans e)
    unfold OwnRows at z ⊢
    rw [List.map_set] at z ⊢
    exact z
  · exact (h.row.1.lt g2 rfl).1
theorem drew (h : Fill2 W w g n k rs g2 m part) : Fill2 W w.drew g n k rs g2 m part := ⟨h.own, h.rows, h.row, h.keep.drew⟩
theorem done (h : Fill2 W w g n k rs g2 m part) : Fill W w g n (rs.set k ⟨some ⟨g2, 0, none⟩, m, m, part⟩) := ⟨h.own, fun r hr => by
  rcases List.mem_or_eq_of_mem_set hr with h1 | h1
  · exact (h.rows r h1).1
  · subst h1; exact h.row, h.keep⟩
end Fill2
theorem RowsIn.rowsAt {w : World} {F : Nat → Prop} {A : Option Addr} {n : Nat} {rs : List RowV} (h : RowsIn w F A n rs) {B : Nat} (hF : ∀ b, F b → b < B) (hb : ∀ r ∈ rs, r.n ≤ 140737488351232) : RowsAt w B A n rs :=
  ⟨h.1, fun r hr => ⟨(h.2.1 r hr).bytes hF, hb r hr, (h.2.1 r hr).2.2.1⟩, fun hp => by
    obtain ⟨b, off, e, hFb, hc⟩ := h.2.2 hp
    exact ⟨b, off, e, hF b hFb, hc⟩⟩
end Go.Proofs.YtgelalbmhllccaaGreat
/- The landed code of layer 6: products. -/
namespace Go.Proofs.YtgelalbmhllccaaGreat
open Go.RowKit
set_option linter.unusedVariables false
set_option linter.unusedSimpArgs false
end Go.Proofs.YtgelalbmhllccaaGreat
/- Rows reduced by columns, as lists: a row found, divided, wiped out of the others; what is reached. -/
namespace Go.Proofs.YtgelalbmhllccaaGreat
open Lin
end Go.Proofs.YtgelalbmhllccaaGreat
/- The tables of powers and exponents as they stand behind k rounds of their making. -/
namespace Go.Proofs.YtgelalbmhllccaaGreat
open Go.RowKit

def tabN : Nat → List Nat
  | 0 => List.replicate 511 0
  | k + 1 => ((tabN k).set k (pw k)).set (255 + pw k) k
def cellsU8 (l : List Nat) : Array Value := (l.map fun n : Nat => Value.int .u8 (n : Int)).toArray
/-- The zeros of a table. -/
def zeros : Array Value := cellsU8 (tabN 0)

theorem tabN_length (k : Nat) : (tabN k).length = 511 := by
  induction k with
  | zero => rw [tabN, List.length_replicate]
  | succ k ih => simp [tabN, ih]
theorem tabN_get (k : Nat) (hk : k ≤ 255) : ∀ i, i < k → (tabN k)[i]? = some (pw i) ∧ (tabN k)[255 + pw i]? = some i := by
  induction k with
  | zero => intro i hi; omega
  | succ k ih =>
    intro i hi
    have hl := tabN_length k
    have hp := pw_lt k
    simp only [tabN, List.getElem?_set, List.length_set, hl]
    by_cases e : i = k
    · subst e
      have h1 : ¬ 255 + pw i = i := by omega
      refine ⟨by rw [if_neg h1, if_pos rfl, if_pos (by omega)], by rw [if_pos rfl, if_pos (by omega)]⟩
    · have h := ih (by omega) i (by omega)
      have hq : pw i ≠ pw k := fun h => e (by have := pw_inj h; rwa [Nat.mod_eq_of_lt (by omega), Nat.mod_eq_of_lt (by omega)] at this)
      have h1 : ¬ 255 + pw k = i := by omega
      have h2 : ¬ k = i := by omega
      have h3 : ¬ 255 + pw k = 255 + pw i := by omega
      have h4 : ¬ k = 255 + pw i := by omega
      exact ⟨by rw [if_neg h1, if_neg h2]; exact h.1, by rw [if_neg h3, if_neg h4]; exact h.2⟩
theorem tab_pw (i : Nat) (h : i < 255) : (tabN 255)[i]? = some (pw i) := (tabN_get 255 (by decide) i h).1
theorem tab_lg (a : Nat) (h : a < 256) (h1 : 1 ≤ a) : (tabN 255)[255 + a]? = some (lg a) := by
  have := (tabN_get 255 (by decide) (lg a) (lg_lt a h h1)).2
  rwa [pw_lg a h h1] at this
theorem cellsU8_get (l : List Nat) (i : Nat) : (cellsU8 l)[i]? = l[i]?.map fun n : Nat => Value.int .u8 (n : Int) := by simp [cellsU8]
theorem cellsU8_some (l : List Nat) (i x : Nat) (h : l[i]? = some x) : (cellsU8 l)[i]? = some (.int .u8 (x : Int)) := by rw [cellsU8_get, h]; rfl
theorem cellsU8_set (l : List Nat) (i x : Nat) : (cellsU8 l).setIfInBounds i (.int .u8 (x : Int)) = cellsU8 (l.set i x) := by
  simp [cellsU8, List.map_set]
theorem cellsU8_size (l : List Nat) : (cellsU8 l).size = l.length := by simp [cellsU8]
theorem cell_table {w : World} {g i : Nat} {l : List Nat} {t : TypeId} (h : w.heap[g]? = some (.cells (cellsU8 l) t)) (hi : i < l.length) : w.cell? ⟨g, i, none⟩ = some (.int .u8 ((l[i] : Nat) : Int)) := by
  rw [cell_of_row w g i _ _ _ h]
  exact cellsU8_some l i _ (List.getElem?_eq_getElem hi)
theorem heap_set2 {w : World} {g i j x y : Nat} {l : List Nat} {t : TypeId} (h : w.heap[g]? = some (.cells (cellsU8 l) t)) :
    ((w.setCell ⟨g, i, none⟩ (.int .u8 (x : Int))).setCell ⟨g, j, none⟩ (.int .u8 (y : Int))).heap[g]? = some (.cells (cellsU8 ((l.set i x).set j y)) t) := by
  have h1 := heap_setCell_same w g i _ t (.int .u8 (x : Int)) h
  rw [cellsU8_set] at h1
  have h2 := heap_setCell_same _ g j _ t (.int .u8 (y : Int)) h1
  rwa [cellsU8_set] at h2
theorem cellsU8_one (l : List Nat) : (cellsU8 l).all (·.oneCell') = true := by
  rw [Array.all_eq_true_iff_forall_mem]
  intro v hv
  simp only [cellsU8, List.mem_toArray, List.mem_map] at hv
  obtain ⟨n, _, rfl⟩ := hv
  rfl
/-- The finished tables, as the cells of one struct. -/
def tabC : Array Value := cellsU8 (tabN 255)
theorem tabC_pw (i : Nat) (h : i < 255) : tabC[i]? = some (.int .u8 ((pw i : Nat) : Int)) := cellsU8_some _ _ _ (tab_pw i h)
theorem tabC_lg (a : Nat) (h : a < 256) (h1 : 1 ≤ a) : tabC[255 + a]? = some (.int .u8 ((lg a : Nat) : Int)) := cellsU8_some _ _ _ (tab_lg a h h1)
theorem tabC_size : tabC.size = 511 := by rw [tabC, cellsU8_size, tabN_length]
theorem tabC_one : tabC.all (·.oneCell') = true := cellsU8_one _
theorem zeros_size : zeros.size = tabC.size := by rw [tabC_size, zeros, cellsU8_size, tabN_length]
/-- A whole struct is stored into the block that was made last. -/
theorem wpList_store_new {P : Program} {ops : Array Oper} {rest : List Oper} {o : Oper} {a : Act} {w : World} {Q : Exit → Act → World → Prop} {c : Array Value} {t : TypeId} (hgd : o.guard = none) (x y : Operand) (ho : o.op = .store t x y)
    (c' : Array Value) (hx : a.eval x = .pointer (some ⟨w.heap.size, 0, none⟩)) (hy : a.eval y = .agg c') (hi : (P.info? t).map (·.size) = some c'.size)
    (hold : c.size = c'.size) (h1 : c'.all (·.oneCell') = true)
    (h : wpList P ops Q rest (a.put o.dst undef) (w.alloc (.cells c' t))) : wpList P ops Q (o :: rest) a (w.alloc (.cells c t)) := by
  refine wpList_store_row hgd t x y ho w.heap.size c' hx hy t c (heap_alloc_new _ _) hi hold h1 ?_
  have e : (w.alloc (.cells c t)).setRow w.heap.size c' = w.alloc (.cells c' t) := by
    simp only [World.setRow, World.alloc]
    congr 1
    apply Array.ext_getElem?
    intro i
    rw [Array.getElem?_modify]
    by_cases h : w.heap.size = i
    · subst h; simp
    · have h' : ¬ i = w.heap.size := fun e => h e.symm
      simp [h, h', Array.getElem?_push]
  rw [e]
  exact h
attribute [irreducible] tabC
end Go.Proofs.YtgelalbmhllccaaGreat
/- The contract of the tables' making. -/
namespace Go.Proofs.YtgelalbmhllccaaGreat
open Go.RowKit

theorem zero_tab (w : World) : (zeroValue 191).run Tryz.prog w = .ok (.agg zeros) w := by kernel_rfl

theorem info_tab : (Tryz.prog.info? 191).map (·.size) = some 511 := by kernel_rfl
theorem info_cells (l : List Nat) (h : l.length = 511) : (Tryz.prog.info? 191).map (·.size) = some (cellsU8 l).size := by rw [info_tab, cellsU8_size, h]

set_option maxRecDepth 100000 in
theorem build_any (w : World) :
    Calls Tryz.prog 123 #[] w fun e w' => e = .returned (.agg tabC) ∧ Keep w w' := by
  have hz := zero_tab
  go_enter Tryz.func123, Tryz.ntmps123
  go_wp2_with fail
  refine wp_scope_jumps 0 (fun a' w' => Keep w w' ∧ ∃ (k : Nat) (u4 u5 u6 u7 u8 u9 u10 u11 u12 u13 u14 u15 u16 u17 u18 u19 u20 : Value), a' = { tmps := #[.pointer (some ⟨w.heap.size, 0, none⟩), .pointer (some ⟨w.heap.size + 1, 0, none⟩), .int .i64 k, .int .u8 (pw k : Nat), u4, u5, u6, u7, u8, u9, u10, u11, u12, u13, u14, u15, u16, u17, u18, u19, u20, undef], defers := [] } ∧ k < 255 ∧ w'.heap[w.heap.size]? = some (.cells zeros 191) ∧ w'.heap[w.heap.size + 1]? = some (.cells (cellsU8 (tabN k)) 191)) (fun a' _ => 255 - (intOf (a'.tmps.getD 2 undef)).toNat) rfl ?_ ?_
  · go_wp2_with fail
    go_step3
    go_wp2_with fail
    refine (timesX_any 1 (by decide) _).mono ?_
    rintro e w' ⟨rfl, rfl⟩
    go_wp2_with fail
    refine (add_any 1 (xt 1) (by decide) (by decide) _).mono ?_
    rintro e w' ⟨rfl, rfl⟩
    go_wp2_with fail
    go_step3
    refine ⟨rfl, ((Keep.refl _).alloc _ _).alloc _ _, 1, _, _, _, _, _, _, _, _, _, _, _, _, _, _, _, _, _, rfl, by decide, ?_, ?_⟩
    · exact heap_alloc2_old _ _ _
    · rw [heap_alloc2_new]; exact congrArg (fun c => some (Obj.cells c 191)) ((cellsU8_set ((tabN 0).set 0 (pw 0)) 256 0) ▸ rfl)
  · rintro a' w' ⟨hg, k, u4, u5, u6, u7, u8, u9, u10, u11, u12, u13, u14, u15, u16, u17, u18, u19, u20, rfl, hk, hh, hh1⟩
    have hp := pw_lt k
    have hp1 := pw_pos' k
    have hl := tabN_length k
    have hl2 : ((tabN k).set k (pw k)).length = 511 := by simp [hl]
    obtain ⟨v1, hc1⟩ : ∃ v, w'.cell? ⟨w.heap.size + 1, k, none⟩ = some v := ⟨_, cell_table hh1 (by omega)⟩
    obtain ⟨v2, hc2⟩ : ∃ v, w'.cell? ⟨w.heap.size + 1, 255 + pw k, none⟩ = some v := ⟨_, cell_table hh1 (by omega)⟩
    have hf1 := frozen_of_row w' (w.heap.size + 1) k _ _ hh1
    have hf2 := frozen_of_row w' (w.heap.size + 1) (255 + pw k) _ _ hh1
    have hs := heap_set2 (i := k) (j := 255 + pw k) (x := pw k) (y := k) hh1
    have HS := Lib.hid hs
    have HH := Lib.hid hh
    have HL := Lib.hid hl
    clear hs hh hh1 hl hl2
    by_cases hk2 : k < 254
    · go_wp2_with fail
      refine (timesX_any _ hp _).mono ?_
      rintro e w' ⟨rfl, rfl⟩
      go_wp2_with fail
      refine (add_any _ _ hp (xt_lt hp) _).mono ?_
      rintro e w' ⟨rfl, rfl⟩
      go_wp2_with fail
      go_step3
      refine ⟨rfl, ⟨(hg.setCell (Nat.le_succ _) _).setCell (Nat.le_succ _) _, k + 1, _, _, _, _, _, _, _, _, _, _, _, _, _, _, _, _, _, rfl, by omega, ?_, HS.out⟩, ?_⟩
      · rw [heap_setCell_other _ _ _ _ (by simp), heap_setCell_other _ _ _ _ (by simp)]; exact HH.out
      · simp [intOf]; omega
    · have hk3 : k = 254 := by omega
      have HT := Lib.hid (show (tabN 255) = ((tabN k).set k (pw k)).set (255 + pw k) k by rw [hk3]; rfl)
      have hk4 : 254 ≤ k := by omega
      clear hk3
      have hl5 : (((tabN k).set k (pw k)).set (255 + pw k) k).length = 511 := by simp [HL.out]
      have HI := Lib.hid (info_cells _ hl5)
      have HL5 := Lib.hid hl5
      have hg2 := (hg.setCell (a := ⟨w.heap.size + 1, k, none⟩) (Nat.le_succ _) (.int .u8 (pw k : Nat))).setCell (a := ⟨w.heap.size + 1, 255 + pw k, none⟩) (Nat.le_succ _) (.int .u8 (k : Nat))
      have HH2 : Hid (((w'.setCell ⟨w.heap.size + 1, k, none⟩ (.int .u8 (pw k : Nat))).setCell ⟨w.heap.size + 1, 255 + pw k, none⟩ (.int .u8 (k : Nat))).heap[w.heap.size]? = some (.cells zeros 191)) := by
        show _ = _
        rw [heap_setCell_other _ _ _ _ (by simp), heap_setCell_other _ _ _ _ (by simp)]; exact HH.out
      clear hl5
      go_wp2_with fail
      refine (timesX_any _ hp _).mono ?_
      rintro e w' ⟨rfl, rfl⟩
      go_wp2_with fail
      refine (add_any _ _ hp (xt_lt hp) _).mono ?_
      rintro e w' ⟨rfl, rfl⟩
      go_wp2_with first | (refine wpList_load_row rfl 191 _ rfl (w.heap.size + 1) rfl 191 _ (0, 0) _ HS.out Tryz.underlying191 rfl HI.out ?_) | (refine wpList_store_row rfl 191 _ _ rfl w.heap.size _ rfl rfl 191 zeros HH2.out HI.out (by rw [cellsU8_size, HL5.out]; rfl) (cellsU8_one _) ?_)
      simp only [Exit.jump]
      refine bodyPost_ret (v := .agg (cellsU8 (((tabN k).set k (pw k)).set (255 + pw k) k))) ?_ rfl ⟨by rw [tabC, HT.out], Keep.setRow hg2 (Nat.le_refl _) HH2.out⟩
      exact results_cell_row (p := 0) (ty := 191) rfl _ _ w.heap.size 191 _ (0, 0) _ rfl (setRow_heap _ _ _ _ _ _ HH2.out) Tryz.underlying191 rfl HI.out
end Go.Proofs.YtgelalbmhllccaaGreat
/- The contract of the landed inverse. -/
namespace Go.Proofs.YtgelalbmhllccaaGreat
open Go.RowKit
theorem info_tabC : (Tryz.prog.info? 191).map (·.size) = some tabC.size := by rw [info_tab, tabC_size]

set_option maxRecDepth 100000 in
theorem inv_pos (a : Nat) (ha : a < 256) (h1 : 1 ≤ a) (w : World) : Calls Tryz.prog 77 #[.int .u8 a] w fun e w' => e = .returned (.tuple #[.int .u8 (invN a : Nat), .int .i64 0]) ∧ Keep w w' := by
  have hz := zero_tab
  have h0 : ((a : Int) == 0) = false := beq_eq_false_iff_ne.2 (by omega)
  have hl := lg_lt a ha h1
  have c1 := tabC_lg a ha h1
  have c2 : tabC[(-((lg a : Nat) : Int) % 255).toNat]? = some (.int .u8 (invN a : Nat)) := by
    rw [show (-((lg a : Nat) : Int) % 255).toNat = (255 - lg a) % 255 by omega, tabC_pw _ (Nat.mod_lt _ (by decide)), invN, if_neg (by omega)]
  go_enter Tryz.func77, Tryz.ntmps77
  go_wp2_with fail
  refine (build_any _).mono ?_
  rintro e w1 ⟨rfl, hg⟩
  go_wp2_with (refine wpList_store_new rfl (.tmp 4) (.tmp 7) rfl tabC rfl rfl info_tabC zeros_size tabC_one ?_)
  go_ret2
  exact ⟨rfl, hg.alloc _ _⟩
end Go.Proofs.YtgelalbmhllccaaGreat
/- The landed code of layer 6: a matrix on its way to a reduced one: a row divided, a row wiped. -/
namespace Go.Proofs.YtgelalbmhllccaaGreat
open Go.RowKit
set_option linter.unusedVariables false
set_option linter.unusedSimpArgs false
namespace Wk
variable {W w w' : World} {b : Nat} {A : Option Addr} {n cap nc B d col q : Nat} {rs : List RowV}
end Wk
end Go.Proofs.YtgelalbmhllccaaGreat
/- The landed code of layer 6: a row taken; a matrix reduced by columns. -/
namespace Go.Proofs.YtgelalbmhllccaaGreat
open Go.RowKit
set_option linter.unusedVariables false
set_option linter.unusedSimpArgs false
end Go.Proofs.YtgelalbmhllccaaGreat
/- The landed code of layer 6: a matrix reduced by columns. -/
namespace Go.Proofs.YtgelalbmhllccaaGreat
open Go.RowKit Lin
set_option linter.unusedVariables false
set_option linter.unusedSimpArgs false
end Go.Proofs.YtgelalbmhllccaaGreat
/- Rows with units behind them, reduced by their first columns: what that tells of the rows themselves. -/
namespace Go.Proofs.YtgelalbmhllccaaGreat
open Lin
end Go.Proofs.YtgelalbmhllccaaGreat
/- The library's slices.Clone, Grow and Concat at bytes. -/
namespace Go.Proofs.YtgelalbmhllccaaGreat
open Go.RowKit
set_option maxRecDepth 100000 in
theorem clone_any (B n c : Nat) (A : Option Addr) (xs : List Nat) (w : World) (h : Bytes w B A n xs) (hB : B ≤ w.heap.size) (hn : n ≤ 140737488355328) :
    Calls Tryz.prog 96 #[.slice A n c] w (NewBytes w xs) := by
  cases A with
  | none =>
    have h0 : n = 0 := by
      rcases Nat.eq_zero_or_pos n with e | e
      · exact e
      · obtain ⟨b, off, e, _⟩ := h.2.2 e; cases e
    subst h0
    have hx : xs = [] := List.eq_nil_of_length_eq_zero h.1
    subst hx
    have hq := fun (w : World) => Lib.run_eql_slice_nil (P := Tryz.prog) w 43 5 none 0 c 0 0 Tryz.underlying43
    clear h
    go_enter Tryz.func96, Tryz.ntmps96
    go_wp2_with fail
    go_ret
    exact ⟨none, 0, 0, rfl, Own.none_ _ _ _, Keep.refl _⟩
  | some ad =>
    have hq := fun (w : World) => Lib.run_eql_slice_nil (P := Tryz.prog) w 43 5 (some ad) n c 0 0 Tryz.underlying43
    have HO := Own.lit w 5 0 [] #[] rfl rfl (by omega) (by decide)
    have HB := Lib.hid (h.alloc hB (.cells #[] 5))
    clear h
    go_enter Tryz.func96, Tryz.ntmps96
    go_wp2_with (at_builtin; refine wpList_append_bytes rfl _ _ 43 rfl Tryz.underlying43 info5 rfl HO rfl HB.out ?c1 ?c2 ?_)
    case c1 => omega
    case c2 => simp
    intro A' c' w' hown hgr _
    have hk : Keep w w' := ((Keep.refl w).alloc #[] 5).grown hgr (fun k hk => by cases hk; exact Nat.le_refl _)
    go_wp2_with fail
    go_ret
    exact ⟨A', _, c', rfl, by simpa using hown, hk⟩
/-- append(nil, make([]byte, n)...), as the translation has it. -/
theorem run_append_zeros_nil {P : Program} {t u e : TypeId} (ht : P.underlying t = some (.slice e)) {k : IntKind} (hu : P.underlying u = some (.int k))
    (hi : (P.info? e).map (fun i => (i.zero, i.size, i.bytes)) = some (some (.int .u8 0), 1, 1)) (n : Nat) (h0 : 0 < n) (hn : n ≤ 140737488355328) (w : World) (ty : TypeId) :
    ∃ c w', (Builtin.append_ #[t, u] ty #[.slice none 0 0, .int .i64 (n : Int)]).run P w = .ok (.slice (some ⟨w.heap.size, 0, none⟩) n c) w' ∧ Own w' w.heap.size e (some ⟨w.heap.size, 0, none⟩) n c (List.replicate n 0) ∧ Keep w w' := by
  obtain ⟨i0, hi0, hz0, hz1, hz2⟩ := info_parts hi
  have hw : IntKind.i64.wrap (n : Int) = (n : Int) := IntWalk.i64_in _ (by omega)
  have hn0 : n ≠ 0 := by omega
  have hl : ¬ ((n : Int) < 0) := by omega
  have h63' : ¬ (9223372036854775807 < (n : Int)) := by omega
  have h48' : ¬ (281474976710656 < Builtin.nextslicecap n 0 * i0.bytes) := by rw [nextslicecap_zero h0, hz2]; omega
  have h48'' : ¬ ((281474976710656 : Int) < (n : Int) * (i0.bytes : Int)) := by rw [hz2]; omega
  have h48c : ¬ (281474976710656 < Builtin.nextslicecap n 0) := by rw [nextslicecap_zero h0]; omega
  have hge := grownCap_ge w n 0 e
  have hcm := grownCap_le_maxLen w n 0 e (by unfold maxLen; omega)
  refine ⟨grownCap w n 0 e, w.drew.alloc (.cells (Builtin.zeroCells #[.int .u8 0] n ++ Builtin.zeroCells #[.int .u8 0] (grownCap w n 0 e - n)) e), ?_, ?_, ?_⟩
  · simp [Builtin.append_, run_underlying ht, run_underlying hu, asInt, asIntOf, sizeOf, typeInfo, zeroValue, hi0, hz0, hz1, hz2, hw, hn0, hl, h63', h48c, Question.forced, run_firstCells_none, newRow, grownCap, Value.cells]
    intro h
    omega
  · refine ⟨⟨by simp [u8s], .inr ⟨w.heap.size, _, _, rfl, Nat.le_refl _, heap_alloc_new w.drew _, hge, hcm, ?_, ?_⟩⟩, AllB.zeros n⟩
    · simp [size_zeroCells]; omega
    · rw [u8s_zeros]
      apply List.ext_getElem
      · simp [Builtin.zeroCells]
      · intro i h1 h2
        simp [Builtin.zeroCells, Nat.mod_one]
  · exact ((Keep.refl w).drew).alloc _ _
theorem wpList_append_zeros {P : Program} {w : World} {ops : Array Oper} {rest : List Oper} {o : Oper} {a : Act} {Q : Exit → Act → World → Prop} (hgd : o.guard = none) (s x : Operand) (t u : TypeId)
    (ho : o.op = .call { callee := .builtin .append, args := #[s, x], argTypes := #[t, u] }) {e : TypeId} {k : IntKind} (ht : P.underlying t = some (.slice e)) (hu : P.underlying u = some (.int k))
    (hi : (P.info? e).map (fun i => (i.zero, i.size, i.bytes)) = some (some (.int .u8 0), 1, 1)) (n : Nat) (hs : a.eval s = .slice none 0 0) (hx : a.eval x = .int .i64 (n : Int)) (h0 : 0 < n) (hn : n ≤ 140737488355328)
    (h : ∀ c w', Own w' w.heap.size e (some ⟨w.heap.size, 0, none⟩) n c (List.replicate n 0) → Keep w w' → wpList P ops Q rest (a.put o.dst (.slice (some ⟨w.heap.size, 0, none⟩) n c)) w') : wpList P ops Q (o :: rest) a w := by
  refine wpList_plain hgd fun _ hK => ?_
  obtain ⟨c, w', hr, h2, h3⟩ := run_append_zeros_nil (P := P) ht hu hi n h0 hn w o.type
  unfold Oper.wp execOp
  simp only [ho, resolve, invoke, builtin, Sem.run_bind, Sem.run_pure, Result.andThen_ok, List.map_toArray, List.map_cons, List.map_nil, hs, hx, hr]
  exact hK _ _ (h c w' h2 h3)
theorem Own.nothing {w : World} {base e n c : Nat} {A : Option Addr} {xs : List Nat} (h : Own w base e A n c xs) : Own w base e A 0 c [] := by
  rcases h.1.2 with ⟨hv, h0⟩ | ⟨g, cap, cur, hv, hg, hh, hle, hm, hs, _⟩
  · injection hv with e1 e2 e3
    subst e1; subst e3
    exact Own.none_ _ _ _
  · injection hv with e1 e2 e3
    subst e1; subst e3
    exact ⟨⟨by simp [u8s], .inr ⟨g, _, cur, rfl, hg, hh, Nat.zero_le _, hm, hs, by simp [u8s]⟩⟩, fun x hx => by simp at hx⟩
set_option maxRecDepth 100000 in
theorem grow_nil (n : Nat) (w : World) (hn : n ≤ 140737488355328) :
    Calls Tryz.prog 144 #[.slice none 0 0, .int .i64 (n : Int)] w (NewBytes w []) := by
  by_cases h0 : n = 0
  · subst h0
    go_enter Tryz.func144, Tryz.ntmps144
    go_wp2_with fail
    go_ret
    exact ⟨none, 0, 0, rfl, Own.none_ _ _ _, Keep.refl _⟩
  · have b1 : ¬ ((n : Int) < 0) := by omega
    have b2 : (0 : Int) < (n : Int) := by omega
    have b3 : (0 : Int) ≤ (n : Int) := by omega
    go_enter Tryz.func144, Tryz.ntmps144
    go_wp2_with (at_builtin; refine wpList_append_zeros rfl _ _ 43 3 rfl Tryz.underlying43 Tryz.underlying3 info5 n rfl rfl (by omega) hn ?_)
    intro c w' hown hk
    have HO := Lib.hid hown.nothing
    have HK := Lib.hid hk
    have hle : (n : Int) ≤ (c : Int) := by
      rcases hown.1.2 with ⟨hv, h0⟩ | ⟨g, cap, cur, hv, _, _, hle, _⟩
      · omega
      · injection hv with _ _ h3; omega
    have hc0 : (0 : Int) ≤ (c : Int) := by omega
    clear hown hk
    go_wp2_with fail
    go_ret
    exact ⟨_, _, _, rfl, HO.out, HK.out⟩
/-- Rows, one behind the other. -/
def joinN (rs : List RowV) : List Nat := rs.flatMap (·.xs)
def sizesN (rs : List RowV) : Nat := (rs.map (·.n)).sum
theorem take_snoc_at {α : Type} {l : List α} {k : Nat} {r : α} (h : l[k]? = some r) : l.take (k + 1) = l.take k ++ [r] := by
  rw [List.take_add_one, h]; rfl
theorem sizesN_succ {rs : List RowV} {k : Nat} {r : RowV} (h : rs[k]? = some r) : sizesN (rs.take (k + 1)) = sizesN (rs.take k) + r.n := by
  rw [take_snoc_at h]; simp [sizesN]
theorem joinN_succ {rs : List RowV} {k : Nat} {r : RowV} (h : rs[k]? = some r) : joinN (rs.take (k + 1)) = joinN (rs.take k) ++ r.xs := by
  rw [take_snoc_at h]; simp [joinN]
theorem sizesN_le (rs : List RowV) (k : Nat) : sizesN (rs.take k) ≤ sizesN rs := by
  have h : rs = rs.take k ++ rs.drop k := (List.take_append_drop k rs).symm
  have : sizesN rs = sizesN (rs.take k) + sizesN (rs.drop k) := by
    conv => lhs; rw [h, sizesN, List.map_append, List.sum_append]
    rfl
  omega
/-- Slices of bytes in a row, of whatever capacities. -/
def RowsUp (w : World) (B : Nat) (A : Option Addr) (n : Nat) (rs : List RowV) : Prop :=
  rs.length = n ∧ (∀ r ∈ rs, Bytes w B r.A r.n r.xs) ∧ (0 < n → ∃ b off, A = some ⟨b, off, none⟩ ∧ b < B ∧ ∀ i r, rs[i]? = some r → w.cell? ⟨b, off + i, none⟩ = some (.slice r.A r.n r.c))
theorem RowsAt.up {w : World} {B n : Nat} {A : Option Addr} {rs : List RowV} (h : RowsAt w B A n rs) : RowsUp w B A n rs := ⟨h.1, fun r hr => (h.2.1 r hr).1, h.2.2⟩
theorem RowsUp.below {w w' : World} {B n : Nat} {A : Option Addr} {rs : List RowV} (h : RowsUp w B A n rs) (k : Below B w w') : RowsUp w' B A n rs :=
  ⟨h.1, fun r hr => (h.2.1 r hr).below k, fun hn => by
    obtain ⟨b, off, e, hb, hc⟩ := h.2.2 hn
    exact ⟨b, off, e, hb, fun i r hi => (k.cell (p := ⟨b, off + i, none⟩) hb).trans (hc i r hi)⟩⟩
theorem RowsUp.keep {w w' : World} {B n : Nat} {A : Option Addr} {rs : List RowV} (h : RowsUp w B A n rs) (hB : B ≤ w.heap.size) (k : Keep w w') : RowsUp w' B A n rs := h.below (Below.mono k hB)
theorem RowsUp.at_ {w : World} {B n : Nat} {A : Option Addr} {rs : List RowV} (h : RowsUp w B A n rs) {k : Nat} (hk : k < n) :
    ∃ b off r, A = some ⟨b, off, none⟩ ∧ b < B ∧ rs[k]? = some r ∧ w.cell? ⟨b, off + k, none⟩ = some (.slice r.A r.n r.c) ∧ Bytes w B r.A r.n r.xs := by
  obtain ⟨b, off, e, hb, hc⟩ := h.2.2 (by omega)
  have hl : k < rs.length := by rw [h.1]; exact hk
  have hr := List.getElem?_eq_getElem hl
  exact ⟨b, off, rs[k], e, hb, hr, hc k _ hr, h.2.1 _ (List.getElem_mem hl)⟩
/-- A literal of slices, its place said. -/
theorem RowsUp.lit {w : World} {h : Nat} (hh : w.heap.size = h) (t : TypeId) (n : Nat) (rs : List RowV) (cs : Array Value) (hc : cs = (rs.map RowV.val).toArray) (hl : rs.length = n) (hr : ∀ r ∈ rs, Bytes w h r.A r.n r.xs) :
    RowsUp (w.alloc (.cells cs t)) (h + 1) (some ⟨h, 0, none⟩) n rs := by
  subst hh
  refine ⟨hl, fun r h1 => ((hr r h1).alloc (Nat.le_refl _) _).mono (by omega), fun _ => ⟨_, 0, rfl, by omega, fun i r hi => ?_⟩⟩
  rw [cell_of_row _ _ _ _ _ _ (heap_alloc_new w _), hc, Nat.zero_add]
  simp [hi, RowV.val]
set_option maxRecDepth 100000 in
set_option maxHeartbeats 1000000 in
theorem concat_any (B n c : Nat) (A : Option Addr) (rs : List RowV) (w : World) (h : RowsUp w B A n rs) (hB : B ≤ w.heap.size) (hn : n ≤ 140737488355328) (ht : sizesN rs ≤ 140737488355328) :
    Calls Tryz.prog 113 #[.slice A n c] w (NewBytes w (joinN rs)) := by
  have HH := Lib.hid h
  have HL := Lib.hid h.1
  clear h
  go_enter Tryz.func113, Tryz.ntmps113
  go_wp2_with fail
  go_loop [3, 11] (fun t i => ∃ k : Nat, k ≤ n ∧ i = .int .i64 k ∧ t = .int .i64 (sizesN (rs.take k) : Nat)) (fun _ i => n - (intOf i).toNat)
  case atStart => exact ⟨0, by omega, rfl, rfl⟩
  case round =>
    obtain ⟨k, hk, rfl, rfl⟩ := hrel
    by_cases hlt : k < n
    · obtain ⟨b, off, r, rfl, hb, hr, hc, hby⟩ := HH.out.at_ hlt
      have e0 : (0 : Int) ≤ (k : Int) := Int.natCast_nonneg _
      have e1 : (k : Int) < (n : Int) := by omega
      have h1 := sizesN_succ hr
      have h2 := sizesN_le rs (k + 1)
      have h3 : sizesN (rs.take k) + r.n ≤ 140737488355328 := by omega
      have HS := Lib.hid h1
      obtain ⟨t, ht'⟩ : ∃ t, sizesN (rs.take k) = t := ⟨_, rfl⟩
      rw [ht'] at h3 HS ⊢
      have e2 : (0 : Int) ≤ (t : Int) + (r.n : Int) := by omega
      have e3 : ¬ ((t : Int) + (r.n : Int) < 0) := by omega
      clear h1 h2 hr hby ht'
      go_wp2_with fail
      go_round
      case rel => exact ⟨k + 1, by omega, by go_num, by rw [HS.out]; go_num⟩
      case measure => simp [intOf]; omega
    · obtain rfl : k = n := by omega
      have h3 : sizesN (rs.take k) ≤ 140737488355328 := Nat.le_trans (sizesN_le rs k) ht
      generalize sizesN (rs.take k) = t at *
      go_wp2_with fail
      refine (grow_nil t _ h3).mono ?_
      rintro e w1 ⟨A1, n1, c1, rfl, o1, k1⟩
      obtain rfl : n1 = 0 := o1.length.symm
      have O1 := Lib.hid o1
      have K1 := Lib.hid k1
      clear o1 k1
      go_wp2_with fail
      go_loopw [6, 27] (fun o i wr => ∃ (j : Nat) (Ao : Option Addr) (co : Nat), j ≤ k ∧ i = .int .i64 j ∧ o = .slice Ao (sizesN (rs.take j) : Nat) co ∧ Own wr w.heap.size 5 Ao (sizesN (rs.take j)) co (joinN (rs.take j)) ∧ Keep w wr) (fun _ i _ => k - (intOf i).toNat)
      case atStart => exact ⟨0, A1, c1, by omega, rfl, rfl, O1.out, K1.out⟩
      case round =>
        obtain ⟨j, Ao, co, hj, rfl, rfl, hown, hkeep⟩ := hrel
        have HO := Lib.hid hown
        have HK := Lib.hid hkeep
        clear hown hkeep
        by_cases hlt : j < k
        · obtain ⟨b, off, r, rfl, hb, hr, hc, hby⟩ := (HH.out.keep hB HK.out).at_ hlt
          have e0 : (0 : Int) ≤ (j : Int) := Int.natCast_nonneg _
          have e1 : (j : Int) < (k : Int) := by omega
          have h1 := sizesN_succ hr
          have h2 := sizesN_le rs (j + 1)
          have h3 : sizesN (rs.take j) + r.n ≤ 140737488355328 := by omega
          have HS := Lib.hid h1
          have HJ := Lib.hid (joinN_succ hr)
          have HBY := Lib.hid hby
          clear h1 h2 hr hby
          go_wp2_with (at_builtin; refine wpList_append_bytes rfl _ _ 43 rfl Tryz.underlying43 info5 rfl HO.out rfl HBY.out h3 HK.out.size ?_)
          intro A2 c2 w2 h2 hgr2 _
          have HO2 := Lib.hid h2
          have HK2 := Lib.hid (HK.out.grown hgr2 HO.out.rowLe)
          clear h2 hgr2
          go_wp2_with fail
          go_roundw
          case rel => exact ⟨j + 1, A2, c2, by omega, by go_num, by rw [HS.out], by rw [HS.out, HJ.out]; exact HO2.out, HK2.out⟩
          case measure => simp [intOf]; omega
        · obtain rfl : j = k := by omega
          go_wp2_with fail
          go_ret
          refine ⟨Ao, _, co, rfl, ?_, HK.out⟩
          have e := HO.out
          rw [List.take_of_length_le (by rw [HL.out]; exact Nat.le_refl _)] at e
          rw [List.take_of_length_le (by rw [HL.out]; exact Nat.le_refl _)]
          exact e
end Go.Proofs.YtgelalbmhllccaaGreat
/- The landed code of layer 6: lists of rows copied; the reduced matrix, its rank. -/
namespace Go.Proofs.YtgelalbmhllccaaGreat
open Go.RowKit Lin
set_option linter.unusedVariables false
set_option linter.unusedSimpArgs false
theorem OwnRows.lower {w : World} {base base' e n c : Nat} {A : Option Addr} {rs : List RowV} (h : OwnRows w base e A n c rs) (hb : base' ≤ base) : OwnRows w base' e A n c rs := by
  refine ⟨h.1, ?_⟩
  rcases h.2 with h1 | ⟨g, cap, cur, hv, hg, r⟩
  · exact Or.inl h1
  · exact Or.inr ⟨g, cap, cur, hv, Nat.le_trans hb hg, r⟩
theorem RowsIn.take {w : World} {F : Nat → Prop} {A : Option Addr} {n d : Nat} {rs : List RowV} (h : RowsIn w F A n rs) (hd : d ≤ n) : RowsIn w F A d (rs.take d) :=
  ⟨by rw [List.length_take, h.1]; omega, fun r hr => h.2.1 r (List.mem_of_mem_take hr), fun hp => by
    obtain ⟨b, off, e, hb, hc⟩ := h.2.2 (by omega)
    refine ⟨b, off, e, hb, fun i r hi => hc i r ?_⟩
    rw [List.getElem?_take] at hi
    split at hi
    · exact hi
    · cases hi⟩
end Go.Proofs.YtgelalbmhllccaaGreat
/- The landed code of layer 6: the inverse. -/
namespace Go.Proofs.YtgelalbmhllccaaGreat
open Go.RowKit Lin
set_option linter.unusedVariables false
set_option linter.unusedSimpArgs false
namespace WkF
variable {W w w' : World} {b g n B : Nat} {rs : List RowV}
end WkF
end Go.Proofs.YtgelalbmhllccaaGreat
/- What layer 6's answers are to one another: products, transposes, ranks, inverses (plain). -/
namespace Go.Proofs.YtgelalbmhllccaaGreat.Lin
variable {B : Type} [Add B] [Mul B] [Zero B] [One B]
end Go.Proofs.YtgelalbmhllccaaGreat.Lin
namespace Go.Proofs.YtgelalbmhllccaaGreat
open Lin
/-- A matrix of r rows and c columns. -/
def Sz (r c : Nat) (M : List (List Nat)) : Prop := M.length = r ∧ RowsOk c M
namespace Sz
variable {r c n m : Nat} {M N O : List (List Nat)}
theorem fits (h : Sz r c M) : Go.Proofs.YtgelalbmhllccaaGreat.fits M := fun x hx => by
  cases M with
  | nil => simp at hx
  | cons y M => rw [List.headD_cons, (h.2 x hx).1, (h.2 y (by simp)).1]
theorem sizeC (h : Sz r c M) (hr : 1 ≤ r) : sizeC M = c := by
  rw [Go.Proofs.YtgelalbmhllccaaGreat.sizeC, if_pos h.fits]
  cases M with
  | nil => have := h.1; simp at this; omega
  | cons y M => rw [List.headD_cons, (h.2 y (by simp)).1]
theorem sizeR (h : Sz r c M) : sizeR M = r := by rw [Go.Proofs.YtgelalbmhllccaaGreat.sizeR, if_pos h.fits, h.1]
theorem at_ (h : Sz r c M) {i : Nat} (hi : i < r) : (M.getD i []).length = c ∧ AllB (M.getD i []) := h.2.at_ (by rw [h.1]; exact hi)
theorem wide (h : Sz r c M) : ∀ i, i < r → Wide c (fn M i) := fun i hi => h.2.wide i (by rw [h.1]; exact hi)
theorem ext (h : Sz r c M) (k : Sz r c N) (e : ∀ i, i < r → fn M i = fn N i) : M = N := by
  refine List.ext_getElem (h.1.trans k.1.symm) fun i h1 h2 => ?_
  have hi : i < r := by rw [← h.1]; exact h1
  have := vec_inj ((h.at_ hi).1.trans (k.at_ hi).1.symm) (h.at_ hi).2 (k.at_ hi).2 (e i hi)
  rwa [List.getD_eq_getElem?_getD, List.getElem?_eq_getElem h1, List.getD_eq_getElem?_getD, List.getElem?_eq_getElem h2] at this
end Sz
theorem sm_v (n : Nat) (f : Nat → By) : (sm n f).v = sumX (fun i => (f i).v) n := by
  induction n with
  | zero => rfl
  | succ n ih => rw [sumX, ← ih]; rfl
theorem dotN_lt {x : List Nat} {N : List (List Nat)} {n : Nat} (hx : AllB x) (j : Nat) : dotN x N j n < 256 := sumX_lt _ _ fun i _ => mulN_lt _ (hx.getD i)
theorem rowN_all {x : List Nat} {N : List (List Nat)} {n c : Nat} (hx : AllB x) : AllB (rowN x N n c) := fun y hy => by
  obtain ⟨j, _, rfl⟩ := List.mem_map.1 hy
  exact dotN_lt hx j
theorem vec_rowN {x : List Nat} {N : List (List Nat)} {n c : Nat} (hx : AllB x) (h : Sz n c N) : vec (rowN x N n c) = comb n (fn N) (vec x) := by
  funext j
  by_cases hj : j < c
  · apply By.ext
    rw [vec_v (rowN_all hx), rowN, tab_getD, if_pos hj, comb, sm_v]
    refine sumX_congr fun i hi => ?_
    rw [mul_v, vec_v hx]
    show _ = mulN (x.getD i 0) (vec (N.getD i []) j).v
    rw [vec_v (h.at_ hi).2]
  · rw [vec_wide (n := c) (by rw [rowN, tab_length]) j (by omega)]
    exact (sm_zero laws n fun i hi => by rw [h.wide i hi j (by omega), laws.mul_zero]).symm
section
variable {r n c m : Nat} {M N O : List (List Nat)}
theorem vec_unit {n i : Nat} (hi : i < n) : vec (vUnit n i) = unitM i := funext fun j => by
  apply By.ext
  rw [vec_v (vUnit_all n i), vUnit, tab_getD]
  show _ = (if j = i then (1 : By) else 0).v
  by_cases e : j = i
  · subst e; rw [if_pos hi, if_pos rfl, if_pos rfl]; rfl
  · rw [if_neg e, if_neg e, ite_self]; rfl
/-- The rank. -/
def rk (M : List (List Nat)) : Nat := (reduceN M).length
end
section
variable {n : Nat} {M N V A : List (List Nat)}
end
end Go.Proofs.YtgelalbmhllccaaGreat
/- What layer 6's answers are to one another: one form, ranks of rows together, solving (plain). -/
namespace Go.Proofs.YtgelalbmhllccaaGreat
open Lin
section
variable {r c s n : Nat} {M N R : List (List Nat)}
theorem Sz.mem (h : Sz r c M) {N : List (List Nat)} (hm : ∀ x ∈ N, x ∈ M) : Sz N.length c N := ⟨rfl, fun x hx => h.2 x (hm x hx)⟩
theorem Sz.append (h : Sz r c M) (k : Sz s c N) : Sz (r + s) c (M ++ N) := ⟨by rw [List.length_append, h.1, k.1], fun x hx => by
  rcases List.mem_append.1 hx with e | e
  · exact h.2 x e
  · exact k.2 x e⟩
theorem Sz.one {v : List Nat} (hl : v.length = c) (ha : AllB v) : Sz 1 c [v] := ⟨rfl, fun x hx => by simp at hx; subst hx; exact ⟨hl, ha⟩⟩
theorem Sz.set (h : Sz r c M) {i : Nat} {v : List Nat} (hl : v.length = c) (ha : AllB v) : Sz r c (M.set i v) := ⟨by rw [List.length_set, h.1], fun x hx => by
  rcases List.mem_or_eq_of_mem_set hx with e | rfl
  · exact h.2 x e
  · exact ⟨hl, ha⟩⟩
end
section
variable {r c s n : Nat} {M N O : List (List Nat)}
end
section
variable {n : Nat} {M : List (List Nat)} {row : List Nat}
end
end Go.Proofs.YtgelalbmhllccaaGreat
/- Matrices side by side in memory: what is held of them on a walk; the code's contracts in those words. -/
namespace Go.Proofs.YtgelalbmhllccaaGreat
open Go.RowKit
set_option linter.unusedVariables false
set_option linter.unusedSimpArgs false
structure MV where
  A : Option Addr
  n : Nat
  c : Nat
  M : List (List Nat)
/-- A matrix in memory. -/
def Mat (w : World) (x : MV) : Prop := ∃ rs, RowsIn w (· < w.heap.size) x.A x.n rs ∧ rowsXs rs = x.M ∧ x.n ≤ x.c
namespace Mat
variable {w w' : World} {x : MV}
theorem keep (h : Mat w x) (k : Keep w w') : Mat w' x := by
  obtain ⟨rs, h1, h2, h3⟩ := h
  exact ⟨rs, (h1.turned (Turned.of_keep (F := fun _ => False) k) fun _ _ e => e).mono fun b hb => Nat.lt_of_lt_of_le hb k.size, h2, h3⟩
theorem len (h : Mat w x) : x.M.length = x.n := by
  obtain ⟨rs, h1, h2, _⟩ := h
  rw [← h2, rowsXs_len, h1.1]
end Mat
/-- Matrices, and what was there has not turned. -/
structure St (W w : World) (l : List MV) : Prop where
  mats : ∀ x ∈ l, Mat w x
  keep : Keep W w
namespace St
variable {W w w' : World} {l : List MV}
theorem start (W : World) : St W W [] := ⟨fun x hx => by simp at hx, Keep.refl W⟩
theorem later (h : St W w l) (k : Keep w w') : St W w' l := ⟨fun x hx => (h.mats x hx).keep k, h.keep.trans k⟩
theorem more {x : MV} (h : St W w l) (m : Mat w' x) (k : Keep w w') : St W w' (l ++ [x]) := ⟨fun y hy => by
  rcases List.mem_append.1 hy with e | e
  · exact (h.mats y e).keep k
  · rw [List.mem_singleton.1 e]; exact m, h.keep.trans k⟩
theorem get {x : MV} (h : St W w l) (i : Nat) (hx : l[i]? = some x) : Mat w x := h.mats x (List.mem_of_getElem? hx)
end St
section
variable {w : World} {A A' : Option Addr} {n n' c c' : Nat} {M N : List (List Nat)}
end
end Go.Proofs.YtgelalbmhllccaaGreat
/- Matrices written out. -/
namespace Go.Proofs.YtgelalbmhllccaaGreat
open Go.RowKit
set_option linter.unusedVariables false
set_option linter.unusedSimpArgs false
theorem Keep.obj {W w : World} (h : Keep W w) (o : Obj) : Keep W (w.alloc o) := Below.alloc h (Below.size h) o
theorem size_obj (w : World) (o : Obj) : (w.alloc o).heap.size = w.heap.size + 1 := by simp
theorem lit_row {w : World} {h : Nat} (hh : w.heap.size = h) (t : TypeId) (n : Nat) (xs : List Nat) (cs : Array Value) (hc : cs = (u8s xs).toArray) (hl : xs.length = n) (hx : AllB xs) : LiesIn (w.alloc (.cells cs t)) (fun b => b < h + 1) ⟨some ⟨h, 0, none⟩, n, n, xs⟩ :=
  ⟨hl, hx, Nat.le_refl _, fun hp => ⟨h, 0, rfl, by omega, fun i hi => by
    subst hh
    rw [cell_of_row _ _ _ _ _ _ (heap_alloc_new w _), hc, Nat.zero_add, List.getElem?_toArray, u8s_get]
    have hi2 : i < xs.length := by rw [hl]; exact hi
    simp [List.getD, hi2]⟩⟩
theorem LiesIn.obj {w : World} {h : Nat} {r : RowV} (k : LiesIn w (fun b => b < h) r) (o : Obj) : LiesIn (w.alloc o) (fun b => b < h) r :=
  k.turned (Turned.of_keep (F := fun _ => False) ((Keep.refl w).obj o)) fun _ _ e => e
theorem lit_mat {w : World} {h : Nat} (hh : w.heap.size = h) (t : TypeId) (n : Nat) (rs : List RowV) (cs : Array Value) (hr : ∀ r ∈ rs, LiesIn w (fun b => b < h) r) (hc : cs = (rs.map RowV.val).toArray) (hl : rs.length = n) (M : List (List Nat)) (hM : rowsXs rs = M) : Mat (w.alloc (.cells cs t)) ⟨some ⟨h, 0, none⟩, n, n, M⟩ := by
  refine ⟨rs, ⟨hl, fun r h' => ((hr r h').obj _).mono fun b hb => by have hb : b < h := hb; rw [size_obj]; omega, fun hp => ⟨h, 0, rfl, by show h < _; rw [size_obj]; omega, fun i r hi => ?_⟩⟩, hM, Nat.le_refl _⟩
  subst hh
  rw [cell_of_row _ _ _ _ _ _ (heap_alloc_new w _), hc, Nat.zero_add, List.getElem?_toArray, List.getElem?_map, hi]; rfl
theorem lit1 {w : World} (t t' : TypeId) (n : Nat) (xs : List Nat) (cs ds : Array Value) (hc : cs = (u8s xs).toArray) (hl : xs.length = n) (hx : AllB xs) (hd : ds = #[.slice (some ⟨w.heap.size, 0, none⟩) n n]) :
    Mat ((w.alloc (.cells cs t)).alloc (.cells ds t')) ⟨some ⟨w.heap.size + 1, 0, none⟩, 1, 1, [xs]⟩ :=
  lit_mat (size_obj _ _) t' 1 [⟨some ⟨w.heap.size, 0, none⟩, n, n, xs⟩] ds (fun r hr => by
    rw [List.mem_singleton] at hr; subst hr; exact lit_row rfl t n xs cs hc hl hx) (by rw [hd]; rfl) rfl _ rfl
end Go.Proofs.YtgelalbmhllccaaGreat
