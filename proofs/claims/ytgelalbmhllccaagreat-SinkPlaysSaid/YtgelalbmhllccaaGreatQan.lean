/- The document's own basis: Rows, Rank, Contains; rows that do not fit. -/
import Derived.Test.YtgelalbmhllccaaGreatRb3
import Derived.Test.YtgelalbmhllccaaGreatQaj
import Derived.Test.YtgelalbmhllccaaGreatQab
import Derived.Test.YtgelalbmhllccaaGreatQai
import Derived.Test.YtgelalbmhllccaaGreatQak
import Derived.Test.YtgelalbmhllccaaGreatQac
import Derived.BigQuiet
namespace Go.Proofs.YtgelalbmhllccaaGreat
open Go.RowKit Lin
set_option linter.unusedVariables false
set_option linter.unusedSimpArgs false
section
variable {w : World} {F G : Nat → Prop} {b g s bi br : Nat} {iv : List Bool} {R : List PairV} {B : List (List Nat)}
/-- What Rows tells: a list of its own, of rows that the basis keeps. -/
def RowsR (w w' : World) (F : Nat → Prop) (g s : Nat) (A : Option Addr) (n c : Nat) (qs : List PairV) : Prop :=
  OwnSt w' w.heap.size A n c qs ∧ (∀ p ∈ qs, (LiesIn w' F p.a ∧ LiesIn w' F p.b) ∧ p.a.n = g ∧ p.b.n = s) ∧ Keep w w'
theorem RowsR.stIn {w w' : World} {A : Option Addr} {n c : Nat} {qs : List PairV} (h : RowsR w w' F g s A n c qs) : StIn w' (fun x => F x ∨ (w.heap.size ≤ x ∧ x < w'.heap.size)) A n qs :=
  OwnSt.stIn h.1 (fun p hp => ⟨(h.2.1 p hp).1.1.mono fun x hx => Or.inl hx, (h.2.1 p hp).1.2.mono fun x hx => Or.inl hx⟩) fun x hx => Or.inr (h.1.lt x hx)
theorem selP_size (h : RefR w F b g s bi br iv R) : ∀ p ∈ selP iv R, (LiesIn w F p.a ∧ LiesIn w F p.b) ∧ p.a.n = g ∧ p.b.n = s := fun p hp => by
  obtain ⟨k, hk⟩ := List.getElem?_of_mem hp
  obtain ⟨i, h1, h2⟩ := selP_mem iv R k p hk
  obtain ⟨⟨a, c⟩, z⟩ := h.rows i p h1 h2
  exact ⟨⟨a.mono fun x hx => hx.1, c.mono fun x hx => hx.1⟩, z⟩
set_option maxRecDepth 100000 in
set_option maxHeartbeats 2000000 in
theorem rprows_any (h : RefR w F b g s bi br iv R) (hg : g ≤ 255) :
    Calls Tryz.prog 132 #[.pointer (some ⟨b, 0, none⟩)] w fun e w' => ∃ A n c, e = .returned (.slice A n c) ∧ RowsR w w' F g s A n c (selP iv R) := by
  have H := Lib.hid h
  clear h
  go_enter Tryz.func132, Tryz.ntmps132
  go_wp2_with fail
  go_loopw [3, 4] (fun l i wr => ∃ (k n c : Nat) (A : Option Addr), k ≤ g ∧ i = .int .i64 k ∧ l = .slice A n c ∧ n ≤ k ∧ OwnSt wr w.heap.size A n c (selP (iv.take k) (R.take k)) ∧ Keep w wr) (fun _ i _ => g - (intOf i).toNat)
  case atStart => exact ⟨0, 0, 0, none, by omega, rfl, rfl, by omega, OwnSt.none_ _ _, Keep.refl _⟩
  case round =>
    obtain ⟨k, n, c, A, hk, rfl, rfl, hn, ho, hK⟩ := hrel
    have HO := Lib.hid ho
    have HK := Lib.hid hK
    have hr := H.out.keep hK
    have c0 := hr.c0
    clear ho hK
    by_cases hlt : k < g
    · have hx := List.getElem?_eq_getElem (l := iv) (i := k) (by rw [H.out.li]; exact hlt)
      have hp := List.getElem?_eq_getElem (l := R) (i := k) (by rw [H.out.lr]; exact hlt)
      obtain ⟨x, hxe⟩ : ∃ x, iv[k]'(by rw [H.out.li]; exact hlt) = x := ⟨_, rfl⟩
      obtain ⟨r, hre⟩ : ∃ r, R[k]'(by rw [H.out.lr]; exact hlt) = r := ⟨_, rfl⟩
      rw [hxe] at hx
      rw [hre] at hp
      have cb := hr.cb hx
      have c2' := hr.c2
      have c3' := hr.c3
      have e1 : (0 : Int) ≤ (k : Int) := Int.natCast_nonneg _
      have e2 : (k : Int) < (g : Int) := by omega
      have HXP := Lib.hid (selP_succ hx hp)
      have hcl := hr.st.cells hp
      have HLT : Hid (k < g) := hlt
      clear hxe hre hx hp hlt hr
      cases x with
      | false =>
        clear hcl c3'
        go_wp2_with fail
        go_roundw
        case rel => exact ⟨k + 1, n, c, A, by have := HLT.out; omega, by go_num, rfl, by omega, by rw [HXP.out]; simpa using HO.out, HK.out⟩
        case measure => have := HLT.out; simp [intOf]; omega
      | true =>
        obtain ⟨⟨rA, rn, rc, rx⟩, ⟨sA, sn, sc, sx⟩⟩ := r
        have y3 : wr.cell? ⟨br, k * 2, none⟩ = some (.slice rA rn rc) := hcl.1
        have y4 : wr.cell? ⟨br, k * 2 + 1, none⟩ = some (.slice sA sn sc) := hcl.2
        have HO2 := Lib.hid (HO.out.keep ((Keep.refl wr).alloc #[.slice rA rn rc, .slice sA sn sc] 45))
        have KA : Hid (Keep wr (wr.alloc (.cells #[.slice rA rn rc, .slice sA sn sc] 45))) := (Keep.refl wr).alloc _ _
        have hnb := heap_alloc_new wr (.cells #[.slice rA rn rc, .slice sA sn sc] 45)
        have HN0 : Hid ((wr.alloc (.cells #[.slice rA rn rc, .slice sA sn sc] 45)).cell? ⟨wr.heap.size, 0, none⟩ = some (.slice rA rn rc)) := cell_of_row _ _ _ _ _ _ hnb
        have HN1 : Hid ((wr.alloc (.cells #[.slice rA rn rc, .slice sA sn sc] 45)).cell? ⟨wr.heap.size, 1, none⟩ = some (.slice sA sn sc)) := cell_of_row _ _ _ _ _ _ hnb
        clear hcl hnb
        go_wp2_with (at_builtin; refine wpList_append_st rfl _ _ 137 rfl ⟨⟨rA, rn, rc, rx⟩, ⟨sA, sn, sc, sx⟩⟩ Tryz.underlying137 rfl HO2.out rfl HN0.out HN1.out (by have := HLT.out; omega) (by have h1 := HK.out.size; have h2 := KA.out.size; omega) ?_)
        intro A2 c2 w2 h2 g2 _
        have HOO : Hid (OwnSt w2 w.heap.size A2 (n + 1) c2 (selP (iv.take (k + 1)) (R.take (k + 1)))) := by show OwnSt _ _ _ _ _ _; rw [HXP.out]; exact h2
        have K2 : Hid (Keep w w2) := (HK.out.trans KA.out).grown g2 (fun i e => (HO.out.lt i e).1)
        clear h2 g2
        go_wp2_with fail
        go_roundw
        case rel => exact ⟨k + 1, n + 1, c2, A2, by have := HLT.out; omega, by go_num, rfl, by omega, HOO.out, K2.out⟩
        case measure => have := HLT.out; simp [intOf]; omega
    · obtain rfl : k = g := by omega
      clear hr
      go_wp2_with fail
      go_ret
      have ho := HO.out
      rw [List.take_of_length_le (l := iv) (by rw [H.out.li]; exact Nat.le_refl _), List.take_of_length_le (l := R) (by rw [H.out.lr]; exact Nat.le_refl _)] at ho
      exact ⟨A, n, c, rfl, ho, selP_size (H.out.keep HK.out), HK.out⟩
set_option maxRecDepth 100000 in
set_option maxHeartbeats 1000000 in
theorem rpinsert_dim (h : RefR w F b g s bi br iv R) (n1 n2 c1 c2 : Nat) (A1 A2 : Option Addr) (hd : n1 ≠ g ∨ n2 ≠ s) :
    Calls Tryz.prog 44 #[.pointer (some ⟨b, 0, none⟩), .agg #[.slice A1 n1 c1, .slice A2 n2 c2]] w fun e w' => e = .returned (.tuple #[.bool false, .int .i64 21]) ∧ Keep w w' := by
  obtain ⟨⟨q, hq⟩⟩ : Nonempty (∃ q, w.heap.size = q) := ⟨_, rfl⟩
  have K0 : Hid (Keep w (w.alloc (.cells #[.slice A1 n1 c1, .slice A2 n2 c2] 45))) := (Keep.refl w).alloc _ _
  have HW : Hid ((w.alloc (.cells #[.slice A1 n1 c1, .slice A2 n2 c2] 45)).heap[q]? = some (.cells #[.slice A1 n1 c1, .slice A2 n2 c2] 45 (0, 0))) := by
    show _ = _
    rw [← hq]; exact heap_alloc_new _ _
  have H := Lib.hid h
  have hbb : ((n1 : Int) != (g : Int)) = true ∨ (((n1 : Int) != (g : Int)) = false ∧ ((n2 : Int) != (s : Int)) = true) := by
    by_cases e : n1 = g
    · refine Or.inr ⟨by simp [e], ?_⟩
      rw [bne_iff_ne]; omega
    · exact Or.inl (by rw [bne_iff_ne]; omega)
  clear h hd
  rcases hbb with b0 | ⟨b0, b1⟩
  all_goals
    go_enter Tryz.func44, Tryz.ntmps44
    go_upto_region 1 with fail
    clear hq
    generalize (w.alloc (.cells #[.slice A1 n1 c1, .slice A2 n2 c2] 45)) = w1 at *
    have d0 := (H.out.keep K0.out).c0
    have d1 := (H.out.keep K0.out).c1
    have u0 : w1.cell? ⟨q, 0, none⟩ = some (.slice A1 n1 c1) := cell_of_row _ _ _ _ _ _ HW.out
    have u1 : w1.cell? ⟨q, 1, none⟩ = some (.slice A2 n2 c2) := cell_of_row _ _ _ _ _ _ HW.out
    go_region
    go_wp2_with fail
    go_ret2
    exact ⟨rfl, K0.out.drew⟩
end
end Go.Proofs.YtgelalbmhllccaaGreat
/- The document's own window. -/
namespace Go.Proofs.YtgelalbmhllccaaGreat
open Go.RowKit
set_option linter.unusedVariables false
set_option linter.unusedSimpArgs false
/-- The document's window of width k and base b in block g. -/
structure RefW (w : World) (g k b : Nat) : Prop where
  block : w.heap[g]? = some (.cells #[.int .u64 (b : Int), .int .i64 (k : Int)] 141 (0, 0))
  low : 1 ≤ k
  high : k ≤ 16
  top : b ≤ topN
namespace RefW
variable {w w' : World} {g k b : Nat}
theorem lt (h : RefW w g k b) : g < w.heap.size := (Array.getElem?_eq_some_iff.1 h.block).1
theorem c0 (h : RefW w g k b) : w.cell? ⟨g, 0, none⟩ = some (.int .u64 (b : Int)) := by simp [World.cell?, h.block]
theorem c1 (h : RefW w g k b) : w.cell? ⟨g, 1, none⟩ = some (.int .i64 (k : Int)) := by simp [World.cell?, h.block]
theorem free (h : RefW w g k b) : w.frozen? ⟨g, 0, none⟩ = false := by simp [World.frozen?, h.block]
theorem turned {G : Nat → Prop} (h : RefW w g k b) (t : Turned G w w') (hn : ¬ G g) : RefW w' g k b := ⟨(t.block g h.lt hn).trans h.block, h.low, h.high, h.top⟩
theorem keep (h : RefW w g k b) (t : Keep w w') : RefW w' g k b := ⟨(t.block g h.lt).trans h.block, h.low, h.high, h.top⟩
theorem moved (h : RefW w g k b) {c : Nat} (hc : c ≤ topN) : RefW (w.setCell ⟨g, 0, none⟩ (.int .u64 (c : Int))) g k c :=
  ⟨by simp [World.setCell, Array.getElem?_modify, h.block], h.low, h.high, hc⟩
end RefW
theorem rnew_out (k : Int) (h : k < 1 ∨ 16 < k) (w : World) : Calls Tryz.prog 36 #[.int .i64 k] w fun e w' => e = .returned (.tuple #[.pointer none, .int .i64 1]) ∧ w' = w := by
  by_cases h1 : k < 1
  · have b1 : decide (k < 1) = true := decide_eq_true h1
    clear h
    go_enter Tryz.func36, Tryz.ntmps36
    go_wp2_with fail
    go_ret2
    exact ⟨rfl, rfl⟩
  · have h2 : 16 < k := by omega
    have b1 : decide (k < 1) = false := decide_eq_false h1
    clear h
    go_enter Tryz.func36, Tryz.ntmps36
    go_wp2_with fail
    go_ret2
    exact ⟨rfl, rfl⟩
theorem rnew_in (k : Nat) (h1 : 1 ≤ k) (h2 : k ≤ 16) (w : World) : Calls Tryz.prog 36 #[.int .i64 (k : Int)] w fun e w' => e = .returned (.tuple #[.pointer (some ⟨w.heap.size, 0, none⟩), .int .i64 0]) ∧ RefW w' w.heap.size k 0 ∧ Keep w w' := by
  have b1 : decide ((k : Int) < 1) = false := decide_eq_false (by omega)
  have b2 : ¬ (16 : Int) < (k : Int) := by omega
  go_enter Tryz.func36, Tryz.ntmps36
  go_wp2_with fail
  go_ret2
  exact ⟨rfl, ⟨heap_alloc_new _ _, h1, h2, Nat.zero_le _⟩, (Keep.refl w).alloc _ _⟩
theorem u64_winL (b i : Nat) (h : b + i < topN) : (winL b (i + 1)).map u64 = (winL b i).map u64 ++ [Value.int .u64 ((b : Int) + (i : Int))] := by
  rw [winL_succ _ _ h, List.map_append]; rfl
section
variable {g k b : Nat} {w : World}
set_option maxRecDepth 100000 in
set_option maxHeartbeats 1000000 in
/-- Its All. -/
theorem rall_any (h : RefW w g k b) :
    Calls Tryz.prog 90 #[.pointer (some ⟨g, 0, none⟩)] w fun e w' => ∃ A n c, e = .returned (.slice A n c) ∧ OwnU w' w.heap.size A n c (winL b k) ∧ Keep w w' := by
  have hk := h.high
  have hb := h.top
  unfold topN at hb
  go_enter Tryz.func90, Tryz.ntmps90
  go_wp2_with fail
  go_loopw [3, 4] (fun v i wr => ∃ (j n c : Nat) (A : Option Addr), j ≤ k ∧ i = .int .i64 j ∧ v = .slice A n c ∧ OwnU wr w.heap.size A n c (winL b j) ∧ Keep w wr) (fun v i _ => k - (intOf i).toNat)
  case atStart => exact ⟨0, 0, 0, none, Nat.zero_le _, rfl, rfl, by rw [winL_none]; exact OwnU.none_ _ _, Keep.refl w⟩
  case round =>
    obtain ⟨j, n, c, A, hj, rfl, rfl, ho, hkw⟩ := hrel
    have hw := h.keep hkw
    have c0 := hw.c0
    have c1 := hw.c1
    have hl : n ≤ 16 := by
      have := winL_le b j
      rw [ho.length] at this
      omega
    have hs := hkw.size
    by_cases hlt : j < k
    · have d1 : (j : Int) < (k : Int) := by omega
      have e1 : IntKind.u64.wrap (j : Int) = (j : Int) := IntWalk.u64_in _ (by omega)
      have e2 : IntKind.u64.wrap ((b : Int) + (j : Int)) = (b : Int) + (j : Int) := IntWalk.u64_in _ (by omega)
      by_cases hin : b + j < topN
      · have d2 : (b : Int) + (j : Int) < 1099511627776 := by unfold topN at hin; omega
        go_wp2_with (at_builtin; refine wpList_append_u rfl _ _ 111 rfl Tryz.underlying111 infoU rfl (ho.alloc _) rfl (by rw [World.cell?_alloc_new]; rfl) (by omega) (by simp; omega) ?_)
        intro A2 c2 w2 h2 hg2
        have k2 : Keep w w2 := (hkw.alloc _ _).grown hg2 ho.rowLe
        go_wp2_with fail
        go_roundw
        case rel => exact ⟨j + 1, n + 1, c2, A2, by omega, by go_num, rfl, by unfold OwnU; rw [u64_winL _ _ hin]; exact h2, k2⟩
        case measure => simp [intOf]; omega
      · have d2 : ¬ (b : Int) + (j : Int) < 1099511627776 := by unfold topN at hin; omega
        go_wp2_with fail
        go_roundw
        case rel => exact ⟨j + 1, n, c, A, by omega, by go_num, rfl, by rw [winL_more _ _ hin]; exact ho, hkw⟩
        case measure => simp [intOf]; omega
    · have d1 : ¬ (j : Int) < (k : Int) := by omega
      obtain rfl : j = k := by omega
      go_wp2_with fail
      go_ret
      exact ⟨A, n, c, rfl, ho, hkw⟩
end
end Go.Proofs.YtgelalbmhllccaaGreat
/- The document's own relay in memory. -/
namespace Go.Proofs.YtgelalbmhllccaaGreat
open Go.RowKit Lin
set_option linter.unusedVariables false
set_option linter.unusedSimpArgs false
/-- A generation that was asked for, and its basis. -/
structure GenS where
  n : Nat
  q : Nat
  F : Nat → Prop
  B : List (List Nat)
def GenS.Ok (x : GenS) (w : World) (g s : Nat) : Prop := Bas g s x.B ∧ ∃ bi br iv R, RefR w x.F x.q g s bi br iv R ∧ Slots g s iv R x.B
theorem GenS.Ok.turned {x : GenS} {w w' : World} {g s : Nat} {G : Nat → Prop} (h : x.Ok w g s) (t : Turned G w w') (hd : ∀ a, x.F a → ¬ G a) : x.Ok w' g s := by
  obtain ⟨hb, bi, br, iv, R, h1, h2⟩ := h
  exact ⟨hb, bi, br, iv, R, h1.turned t hd, h2⟩
theorem GenS.Ok.lt {x : GenS} {w : World} {g s : Nat} (h : x.Ok w g s) : ∀ a, x.F a → a < w.heap.size := by
  obtain ⟨hb, bi, br, iv, R, h1, h2⟩ := h
  exact h1.lt
def gnL (G : List GenS) : List (Nat × Nat) := G.map fun x => (x.n, x.q)
structure RefYA (w : World) (F : Nat → Prop) (p g s k b : Nat) (L : Nat → List (List Nat)) (wb : Nat) (A : Option Addr) (n c : Nat) (G : List GenS) : Prop where
  block : w.heap[p]? = some (.cells #[.int .i64 (g : Int), .int .i64 (s : Int), .pointer (some ⟨wb, 0, none⟩), .slice A n c] 98 (0, 0))
  win : RefW w wb k b
  own : OwnGn w 0 A n c (gnL G)
  ok : ∀ x ∈ G, x.Ok w g s
  up : ∀ (i j : Nat) (x y : GenS), i < j → G[i]? = some x → G[j]? = some y → x.n < y.n
  inw : ∀ x ∈ G, winIn b k x.n = true
  ap : ∀ (i j : Nat) (x y : GenS), i ≠ j → G[i]? = some x → G[j]? = some y → ∀ a, x.F a → ¬ y.F a
  off : ∀ x ∈ G, ∀ a, x.F a → a ≠ p ∧ a ≠ wb ∧ ¬ (Value.slice A n c).ownBlock = some a
  ne : p ≠ wb ∧ ∀ a, (Value.slice A n c).ownBlock = some a → a ≠ p ∧ a ≠ wb
  fp : F p
  fw : F wb
  fo : ∀ a, (Value.slice A n c).ownBlock = some a → F a
  fx : ∀ x ∈ G, ∀ a, x.F a → F a
  lt : ∀ a, F a → a < w.heap.size
  g1 : 1 ≤ g
  g2 : g ≤ 255
  s1 : 1 ≤ s
  s2 : s ≤ 65535
  l : ∀ x ∈ G, x.B = L x.n
  no : ∀ m, (∀ x ∈ G, x.n ≠ m) → L m = []
def RefY (w : World) (F : Nat → Prop) (p g s k b : Nat) (L : Nat → List (List Nat)) : Prop := ∃ wb A n c G, RefYA w F p g s k b L wb A n c G
section
variable {w w' : World} {F H : Nat → Prop} {p g s k b wb n c : Nat} {L : Nat → List (List Nat)} {A : Option Addr} {G : List GenS}
namespace RefYA
theorem r (h : RefYA w F p g s k b L wb A n c G) : RefY w F p g s k b L := ⟨wb, A, n, c, G, h⟩
theorem turned (h : RefYA w F p g s k b L wb A n c G) (t : Turned H w w') (hd : ∀ a, F a → ¬ H a) : RefYA w' F p g s k b L wb A n c G :=
  ⟨(t.block p (h.lt p h.fp) (hd p h.fp)).trans h.block, h.win.turned t (hd wb h.fw), h.own.turned t fun a ha => hd a (h.fo a ha), fun x hx => (h.ok x hx).turned t fun a ha => hd a (h.fx x hx a ha), h.up, h.inw, h.ap, h.off, h.ne, h.fp, h.fw, h.fo, h.fx, fun a ha => Nat.lt_of_lt_of_le (h.lt a ha) t.size, h.g1, h.g2, h.s1, h.s2, h.l, h.no⟩
theorem keep (h : RefYA w F p g s k b L wb A n c G) (t : Keep w w') : RefYA w' F p g s k b L wb A n c G := h.turned (Turned.of_keep (F := fun _ => False) t) fun _ _ e => e
theorem c0 (h : RefYA w F p g s k b L wb A n c G) : w.cell? ⟨p, 0, none⟩ = some (.int .i64 (g : Int)) := cell_of_row _ _ _ _ _ _ h.block
theorem c1 (h : RefYA w F p g s k b L wb A n c G) : w.cell? ⟨p, 1, none⟩ = some (.int .i64 (s : Int)) := cell_of_row _ _ _ _ _ _ h.block
theorem c2 (h : RefYA w F p g s k b L wb A n c G) : w.cell? ⟨p, 2, none⟩ = some (.pointer (some ⟨wb, 0, none⟩)) := cell_of_row _ _ _ _ _ _ h.block
theorem c3 (h : RefYA w F p g s k b L wb A n c G) : w.cell? ⟨p, 3, none⟩ = some (.slice A n c) := cell_of_row _ _ _ _ _ _ h.block
theorem free (h : RefYA w F p g s k b L wb A n c G) (i : Nat) : w.frozen? ⟨p, i, none⟩ = false := by simp [World.frozen?, h.block]
theorem len (h : RefYA w F p g s k b L wb A n c G) : G.length = n := by have := h.own.length; rwa [gnL, List.length_map] at this
/-- Of a window, there are no more than its width. -/
theorem from_ (h : RefYA w F p g s k b L wb A n c G) : ∀ (i : Nat) (x : GenS), G[i]? = some x → b + i ≤ x.n
  | 0, x, hx => by
    have h1 := h.inw x (List.mem_of_getElem? hx)
    rw [winIn_iff] at h1
    omega
  | i + 1, x, hx => by
    have hi : i < G.length := by have := (List.getElem?_eq_some_iff.1 hx).1; omega
    have h1 := h.from_ i G[i] (List.getElem?_eq_getElem hi)
    have h2 := h.up i (i + 1) G[i] x (by omega) (List.getElem?_eq_getElem hi) hx
    omega
theorem short (h : RefYA w F p g s k b L wb A n c G) : n ≤ k := by
  rcases Nat.eq_zero_or_pos n with e | e
  · omega
  · have hl := h.len
    have hx : G[n - 1]? = some (G[n - 1]'(by omega)) := List.getElem?_eq_getElem (by omega)
    have h1 := h.from_ (n - 1) _ hx
    have h2 := h.inw _ (List.mem_of_getElem? hx)
    rw [winIn_iff, endN] at h2
    omega
/-- One of the bases has turned. -/
theorem put (h : RefYA w F p g s k b L wb A n c G) {i : Nat} {x : GenS} {F' : Nat → Prop} {B' : List (List Nat)} (hx : G[i]? = some x) (ok' : GenS.Ok ⟨x.n, x.q, F', B'⟩ w' g s) (hf : ∀ a, F' a → x.F a ∨ w.heap.size ≤ a) (t : Turned x.F w w') :
    RefYA w' (fun a => F a ∨ F' a) p g s k b (upd L x.n B') wb A n c (G.set i ⟨x.n, x.q, F', B'⟩) := by
  have hi : i < G.length := (List.getElem?_eq_some_iff.1 hx).1
  have hm := List.mem_of_getElem? hx
  have ho := h.off x hm
  have get : ∀ (j : Nat) (y : GenS), (G.set i ⟨x.n, x.q, F', B'⟩)[j]? = some y → (j = i ∧ y = ⟨x.n, x.q, F', B'⟩) ∨ (j ≠ i ∧ G[j]? = some y) := fun j y hy => set_get hy
  have mem : ∀ y ∈ G.set i ⟨x.n, x.q, F', B'⟩, y = ⟨x.n, x.q, F', B'⟩ ∨ ∃ j, j ≠ i ∧ G[j]? = some y := fun y hy => by
    obtain ⟨j, hj⟩ := List.getElem?_of_mem hy
    rcases get j y hj with ⟨_, e⟩ | e
    · exact Or.inl e
    · exact Or.inr ⟨j, e⟩
  have eG : gnL (G.set i ⟨x.n, x.q, F', B'⟩) = gnL G := by
    unfold gnL
    rw [List.map_set]
    refine List.ext_getElem? fun j => ?_
    rw [List.getElem?_set, List.length_map]
    by_cases e : i = j
    · subst e
      rw [if_pos rfl, if_pos hi, List.getElem?_map, hx]; rfl
    · rw [if_neg e]
  have nn : ∀ (j : Nat) (y : GenS), j ≠ i → G[j]? = some y → y.n ≠ x.n := fun j y hj hy e => by
    rcases Nat.lt_or_ge j i with e2 | e2
    · have := h.up j i y x e2 hy hx; omega
    · have := h.up i j x y (by omega) hx hy; omega
  have fF : ∀ a, F' a → F a ∨ w.heap.size ≤ a := fun a ha => (hf a ha).imp (h.fx x hm a) id
  refine ⟨(t.block p (h.lt p h.fp) fun e => (ho p e).1 rfl).trans h.block, h.win.turned t fun e => (ho wb e).2.1 rfl, by rw [eG]; exact h.own.turned t fun a ha e => (ho a e).2.2 ha, fun y hy => ?_, fun j l y z hjl hy hz => ?_, fun y hy => ?_, fun j l y z hjl hy hz a ha hb => ?_, fun y hy a ha => ?_, h.ne, Or.inl h.fp, Or.inl h.fw, fun a ha => Or.inl (h.fo a ha), fun y hy a ha => ?_, fun a ha => ?_, h.g1, h.g2, h.s1, h.s2, fun y hy => ?_, fun m hm2 => ?_⟩
  · rcases mem y hy with rfl | ⟨j, hj, hy2⟩
    · exact ok'
    · exact (h.ok y (List.mem_of_getElem? hy2)).turned t fun a ha e => h.ap j i y x hj hy2 hx a ha e
  · rcases get j y hy with ⟨rfl, rfl⟩ | ⟨hj, hy2⟩
    · rcases get l z hz with ⟨rfl, rfl⟩ | ⟨hl, hz2⟩
      · omega
      · exact h.up j l x z hjl hx hz2
    · rcases get l z hz with ⟨rfl, rfl⟩ | ⟨hl, hz2⟩
      · exact h.up j l y x hjl hy2 hx
      · exact h.up j l y z hjl hy2 hz2
  · rcases mem y hy with rfl | ⟨j, hj, hy2⟩
    · exact h.inw x hm
    · exact h.inw y (List.mem_of_getElem? hy2)
  · rcases get j y hy with ⟨rfl, rfl⟩ | ⟨hj, hy2⟩
    · rcases get l z hz with ⟨rfl, rfl⟩ | ⟨hl, hz2⟩
      · exact hjl rfl
      · rcases hf a ha with e | e
        · exact h.ap j l x z hjl hx hz2 a e hb
        · have := (h.ok z (List.mem_of_getElem? hz2)).lt a hb; omega
    · rcases get l z hz with ⟨rfl, rfl⟩ | ⟨hl, hz2⟩
      · rcases hf a hb with e | e
        · exact h.ap j l y x hjl hy2 hx a ha e
        · have := (h.ok y (List.mem_of_getElem? hy2)).lt a ha; omega
      · exact h.ap j l y z hjl hy2 hz2 a ha hb
  · rcases mem y hy with rfl | ⟨j, hj, hy2⟩
    · rcases hf a ha with e | e
      · exact ho a e
      · have h1 := h.lt p h.fp
        have h2 := h.lt wb h.fw
        exact ⟨by omega, by omega, fun e2 => by have := h.lt a (h.fo a e2); omega⟩
    · exact h.off y (List.mem_of_getElem? hy2) a ha
  · rcases mem y hy with rfl | ⟨j, hj, hy2⟩
    · exact Or.inr ha
    · exact Or.inl (h.fx y (List.mem_of_getElem? hy2) a ha)
  · rcases ha with ha | ha
    · exact Nat.lt_of_lt_of_le (h.lt a ha) t.size
    · exact ok'.lt a ha
  · rcases mem y hy with rfl | ⟨j, hj, hy2⟩
    · exact (upd_at L x.n B').symm
    · rw [upd_ne L B' (nn j y hj hy2)]; exact h.l y (List.mem_of_getElem? hy2)
  · have h1 : (⟨x.n, x.q, F', B'⟩ : GenS) ∈ G.set i ⟨x.n, x.q, F', B'⟩ := List.mem_set hi _
    rw [upd_ne L B' fun e => hm2 _ h1 e.symm]
    refine h.no m fun y hy e => ?_
    obtain ⟨j, hj⟩ := List.getElem?_of_mem hy
    by_cases e2 : j = i
    · subst e2
      rw [hx] at hj
      injection hj with hj
      subst hj
      exact hm2 _ h1 e
    · refine hm2 y ?_ e
      have : (G.set i ⟨x.n, x.q, F', B'⟩)[j]? = some y := by rw [List.getElem?_set, if_neg fun e => e2 e.symm]; exact hj
      exact List.mem_of_getElem? this
end RefYA
theorem ins_get {α : Type} {G : List α} {i j : Nat} {x y : α} (hi : i ≤ G.length) (h : (G.take i ++ [x] ++ G.drop i)[j]? = some y) : (j = i ∧ y = x) ∨ (j < i ∧ G[j]? = some y) ∨ (i < j ∧ G[j - 1]? = some y) := by
  have h1 : (G.take i).length = i := by rw [List.length_take]; omega
  have h2 : (G.take i ++ [x]).length = i + 1 := by rw [List.length_append, h1]; rfl
  rcases Nat.lt_trichotomy j i with e | e | e
  · rw [List.getElem?_append_left (by omega), List.getElem?_append_left (by omega), List.getElem?_take, if_pos e] at h
    exact Or.inr (Or.inl ⟨e, h⟩)
  · subst e
    rw [List.getElem?_append_left (by omega), List.getElem?_append_right (by omega), h1, Nat.sub_self] at h
    injection h with h
    exact Or.inl ⟨rfl, h.symm⟩
  · rw [List.getElem?_append_right (by omega), h2, List.getElem?_drop] at h
    rw [show i + (j - (i + 1)) = j - 1 by omega] at h
    exact Or.inr (Or.inr ⟨e, h⟩)
theorem ins_at {α : Type} {G : List α} {i : Nat} {x : α} (hi : i ≤ G.length) : (G.take i ++ [x] ++ G.drop i)[i]? = some x := by
  have h1 : (G.take i).length = i := by rw [List.length_take]; omega
  have h2 : (G.take i ++ [x]).length = i + 1 := by rw [List.length_append, h1]; rfl
  rw [List.getElem?_append_left (by omega), List.getElem?_append_right (by omega), h1, Nat.sub_self]; rfl
theorem gnL_ins (G : List GenS) (i : Nat) (x : GenS) : gnL (G.take i ++ [x] ++ G.drop i) = [] ++ (gnL G).take i ++ [(x.n, x.q)] ++ (gnL G).drop i := by
  simp [gnL, List.map_take, List.map_drop]
theorem ins_old {α : Type} {G : List α} {i : Nat} {x y : α} (h : y ∈ G) : y ∈ G.take i ++ [x] ++ G.drop i := by
  rw [← List.take_append_drop i G] at h
  simp only [List.mem_append] at h ⊢
  rcases h with h | h
  · exact Or.inl (Or.inl h)
  · exact Or.inr h
namespace RefYA
/-- Another generation's basis is laid in between. -/
theorem insert {w8 : World} {i c8 base : Nat} {A8 : Option Addr} {x : GenS} (h : RefYA w F p g s k b L wb A n c G) (kp : Keep w w8) (hi : i ≤ n) (ho : OwnGn w8 base A8 (n + 1) c8 (gnL (G.take i ++ [x] ++ G.drop i))) (hb : w.heap.size ≤ base) (ok' : x.Ok w8 g s) (hx : x.B = []) (hin : winIn b k x.n = true) (hf : ∀ a, x.F a → w.heap.size ≤ a ∧ a < base)
    (lo : ∀ (j : Nat) (y : GenS), j < i → G[j]? = some y → y.n < x.n) (up2 : ∀ (j : Nat) (y : GenS), i ≤ j → G[j]? = some y → x.n < y.n) :
    RefYA (w8.setCell ⟨p, 3, none⟩ (.slice A8 (n + 1) c8)) (fun a => F a ∨ x.F a ∨ (Value.slice A8 (n + 1) c8).ownBlock = some a) p g s k b L wb A8 (n + 1) c8 (G.take i ++ [x] ++ G.drop i) := by
  have t : Turned (fun a => a = p) w8 (w8.setCell ⟨p, 3, none⟩ (.slice A8 (n + 1) c8)) := Turned.set (F := fun a => a = p) w8 ⟨p, 3, none⟩ _ rfl
  have hG : i ≤ G.length := by rw [h.len]; exact hi
  have hpl := h.lt p h.fp
  have hwl := h.lt wb h.fw
  have own : ∀ a, (Value.slice A8 (n + 1) c8).ownBlock = some a → base ≤ a := ho.rowLe
  have get := fun (j : Nat) (y : GenS) (hy : (G.take i ++ [x] ++ G.drop i)[j]? = some y) => ins_get hG hy
  have mem : ∀ y ∈ G.take i ++ [x] ++ G.drop i, y = x ∨ y ∈ G := fun y hy => by
    obtain ⟨j, hj⟩ := List.getElem?_of_mem hy
    rcases get j y hj with ⟨_, e⟩ | ⟨_, e⟩ | ⟨_, e⟩
    · exact Or.inl e
    · exact Or.inr (List.mem_of_getElem? e)
    · exact Or.inr (List.mem_of_getElem? e)
  have hxm : x ∈ G.take i ++ [x] ++ G.drop i := by simp
  refine ⟨?_, (h.win.keep kp).turned t fun e => h.ne.1 e.symm, (ho.turned t fun a ha e => by have := own a ha; omega).lower (Nat.zero_le _), fun y hy => ?_, fun j l y z hjl hy hz => ?_, fun y hy => ?_, fun j l y z hjl hy hz a ha hb2 => ?_, fun y hy a ha => ?_, ⟨h.ne.1, fun a ha => by have := own a ha; exact ⟨by omega, by omega⟩⟩, Or.inl h.fp, Or.inl h.fw, fun a ha => Or.inr (Or.inr ha), fun y hy a ha => ?_, fun a ha => ?_, h.g1, h.g2, h.s1, h.s2, fun y hy => ?_, fun m hm => ?_⟩
  · rw [bset ((kp.block p hpl).trans h.block)]; rfl
  · rcases mem y hy with rfl | hy
    · exact ok'.turned t fun a ha e => by have := hf a ha; omega
    · exact ((h.ok y hy).turned (Turned.of_keep (F := fun _ => False) kp) fun _ _ e => e).turned t fun a ha e => (h.off y hy a ha).1 e
  · rcases get j y hy with ⟨rfl, rfl⟩ | ⟨hj, hy2⟩ | ⟨hj, hy2⟩
    · rcases get l z hz with ⟨rfl, rfl⟩ | ⟨hl, hz2⟩ | ⟨hl, hz2⟩
      · omega
      · omega
      · exact up2 (l - 1) z (by omega) hz2
    · rcases get l z hz with ⟨rfl, rfl⟩ | ⟨hl, hz2⟩ | ⟨hl, hz2⟩
      · exact lo j y hj hy2
      · exact h.up j l y z hjl hy2 hz2
      · exact h.up j (l - 1) y z (by omega) hy2 hz2
    · rcases get l z hz with ⟨rfl, rfl⟩ | ⟨hl, hz2⟩ | ⟨hl, hz2⟩
      · omega
      · omega
      · exact h.up (j - 1) (l - 1) y z (by omega) hy2 hz2
  · rcases mem y hy with rfl | hy
    · exact hin
    · exact h.inw y hy
  · rcases get j y hy with ⟨rfl, rfl⟩ | ⟨hj, hy2⟩ | ⟨hj, hy2⟩
    · rcases get l z hz with ⟨rfl, rfl⟩ | ⟨hl, hz2⟩ | ⟨hl, hz2⟩
      · omega
      · have := h.lt a (h.fx z (List.mem_of_getElem? hz2) a hb2); have := hf a ha; omega
      · have := h.lt a (h.fx z (List.mem_of_getElem? hz2) a hb2); have := hf a ha; omega
    · rcases get l z hz with ⟨rfl, rfl⟩ | ⟨hl, hz2⟩ | ⟨hl, hz2⟩
      · have := h.lt a (h.fx y (List.mem_of_getElem? hy2) a ha); have := hf a hb2; omega
      · exact h.ap j l y z hjl hy2 hz2 a ha hb2
      · exact h.ap j (l - 1) y z (by omega) hy2 hz2 a ha hb2
    · rcases get l z hz with ⟨rfl, rfl⟩ | ⟨hl, hz2⟩ | ⟨hl, hz2⟩
      · have := h.lt a (h.fx y (List.mem_of_getElem? hy2) a ha); have := hf a hb2; omega
      · exact h.ap (j - 1) l y z (by omega) hy2 hz2 a ha hb2
      · exact h.ap (j - 1) (l - 1) y z (by omega) hy2 hz2 a ha hb2
  · rcases mem y hy with rfl | hy
    · have h1 := hf a ha
      exact ⟨by omega, by omega, fun e => by have := own a e; omega⟩
    · have h1 := h.off y hy a ha
      have h2 := h.lt a (h.fx y hy a ha)
      exact ⟨h1.1, h1.2.1, fun e => by have := own a e; omega⟩
  · rcases mem y hy with rfl | hy
    · exact Or.inr (Or.inl ha)
    · exact Or.inl (h.fx y hy a ha)
  · have hs := t.size
    rcases ha with ha | ha | ha
    · exact Nat.lt_of_lt_of_le (h.lt a ha) (Nat.le_trans kp.size hs)
    · exact Nat.lt_of_lt_of_le (ok'.lt a ha) hs
    · exact Nat.lt_of_lt_of_le (World.ownsRow.lt ho a ha).2 hs
  · rcases mem y hy with rfl | hy
    · rw [hx]
      refine (h.no y.n fun z hz e => ?_).symm
      obtain ⟨j, hj⟩ := List.getElem?_of_mem hz
      rcases Nat.lt_or_ge j i with e2 | e2
      · have := lo j z e2 hj; omega
      · have := up2 j z e2 hj; omega
    · exact h.l y hy
  · exact h.no m fun y hy => hm y (ins_old hy)
end RefYA
theorem RefY.keep (h : RefY w F p g s k b L) (t : Keep w w') : RefY w' F p g s k b L := by
  obtain ⟨wb, A, n, c, G, h⟩ := h; exact (h.keep t).r
theorem RefY.turned (h : RefY w F p g s k b L) (t : Turned H w w') (hd : ∀ a, F a → ¬ H a) : RefY w' F p g s k b L := by
  obtain ⟨wb, A, n, c, G, h⟩ := h; exact (h.turned t hd).r
theorem RefY.lt (h : RefY w F p g s k b L) : ∀ a, F a → a < w.heap.size := by
  obtain ⟨wb, A, n, c, G, h⟩ := h; exact h.lt
end
end Go.Proofs.YtgelalbmhllccaaGreat
/- The document's own window: In, End, Slot, Move; lists held side by side. -/
namespace Go.Proofs.YtgelalbmhllccaaGreat
open Go.RowKit
set_option linter.unusedVariables false
set_option linter.unusedSimpArgs false
section
variable {g k b : Nat} {w : World}
set_option maxRecDepth 100000 in
set_option maxHeartbeats 1000000 in
/-- Its In. -/
theorem rin_any (n : Nat) (h : RefW w g k b) :
    Calls Tryz.prog 53 #[.pointer (some ⟨g, 0, none⟩), .int .u64 (n : Int)] w fun e w' => e = .returned (.bool (winIn b k n)) ∧ Keep w w' := by
  have hk := h.high
  go_enter Tryz.func53, Tryz.ntmps53
  go_wp2_with fail
  refine (rall_any h).mono ?_
  rintro e w1 ⟨A, m, c, rfl, ho, hkw⟩
  have HI := Lib.hid ho.ins
  have HK := Lib.hid hkw
  have hm : m ≤ 16 := by
    have := winL_le b k
    rw [ho.length] at this
    omega
  have HL := Lib.hid ho.length
  clear ho hkw
  go_wp2_with fail
  go_loopw [6] (fun i wr => ∃ j : Nat, j ≤ m ∧ i = .int .i64 j ∧ wr = w1 ∧ ∀ x ∈ (winL b k).take j, x ≠ n) (fun i _ => m - (intOf i).toNat)
  case atStart => exact ⟨0, Nat.zero_le _, rfl, rfl, fun x hx => by simp at hx⟩
  case round =>
    obtain ⟨j, hj, rfl, rfl, hx⟩ := hrel
    have HX := Lib.hid hx
    clear hx
    by_cases hlt : j < m
    · obtain ⟨q, off, x, rfl, _, _, hx, hc⟩ := HI.out.at_ hlt
      have HG := Lib.hid hx
      clear hx
      have e1 : (0 : Int) ≤ (j : Int) := Int.natCast_nonneg _
      have e2 : (j : Int) < (m : Int) := by omega
      by_cases hxn : x = n
      · have d : decide ((x : Int) = (n : Int)) = true := decide_eq_true (by omega)
        go_wp2_with fail
        go_ret
        exact ⟨by rw [winIn_mem, decide_eq_true (by rw [← hxn]; exact List.mem_of_getElem? HG.out)]; rfl, HK.out⟩
      · have d : ¬ (x : Int) = (n : Int) := by omega
        go_wp2_with fail
        go_roundw
        case rel =>
          refine ⟨j + 1, by omega, by go_num, trivial, fun y hy => ?_⟩
          rw [List.take_add_one, HG.out] at hy
          rcases List.mem_append.1 hy with hy | hy
          · exact HX.out y hy
          · simp at hy; subst hy; exact hxn
        case measure => simp [intOf]; omega
    · have d1 : ¬ (j : Int) < (m : Int) := by omega
      obtain rfl : j = m := by omega
      go_wp2_with fail
      go_ret
      refine ⟨?_, HK.out⟩
      rw [winIn_mem, decide_eq_false (fun hmem => HX.out n (by rw [List.take_of_length_le (by rw [HL.out]; omega)]; exact hmem) rfl)]; rfl
/-- Its Move. -/
theorem rmove_out (c : Nat) (hc : topN < c) (w : World) :
    Calls Tryz.prog 52 #[.pointer (some ⟨g, 0, none⟩), .int .u64 (c : Int)] w fun e w' => e = .returned (.tuple #[.slice none 0 0, .int .i64 1]) ∧ w' = w := by
  unfold topN at hc
  have d : (1099511627776 : Int) < (c : Int) := by omega
  go_enter Tryz.func52, Tryz.ntmps52
  go_wp2_with fail
  go_ret2
  exact ⟨rfl, rfl⟩
theorem u64_gone' (b k c i : Nat) (h : winIn c k (b + i) = false) : (goneN b k c (i + 1)).map u64 = (goneN b k c i).map u64 ++ [Value.int .u64 ((b + i : Nat) : Int)] := by
  rw [goneN_out _ _ _ _ h, List.map_append]; rfl
set_option maxRecDepth 100000 in
set_option maxHeartbeats 1000000 in
theorem rmove_in (c : Nat) (hc : c ≤ topN) (h : RefW w g k b) :
    Calls Tryz.prog 52 #[.pointer (some ⟨g, 0, none⟩), .int .u64 (c : Int)] w fun e w' => ∃ A n q, e = .returned (.tuple #[.slice A n q, .int .i64 0]) ∧ OwnU w' w.heap.size A n q (winGone b k c) ∧ RefW w' g k c ∧ Turned (fun x => x = g) w w' := by
  have hc2 := hc
  unfold topN at hc2
  have d : ¬ (1099511627776 : Int) < (c : Int) := by omega
  have hk := h.high
  have hlt := h.lt
  go_enter Tryz.func52, Tryz.ntmps52
  go_wp2_with fail
  refine (rall_any h).mono ?_
  rintro e w1 ⟨A, m, q, rfl, ho, hkw⟩
  have hw1 := h.keep hkw
  have hm : m ≤ 16 := by
    have := winL_le b k
    rw [ho.length] at this
    omega
  have HL := Lib.hid ho.length
  have ht : Turned (fun x => x = g) w1 (w1.setCell ⟨g, 0, none⟩ (.int .u64 (c : Int))) := Turned.set (F := fun x => x = g) _ _ _ rfl
  have hm2 := hw1.moved hc
  have hu := ho.ins.turned ht (fun x hx e => by have e : x = g := e; omega)
  have HU := Lib.hid (hu.any)
  have HT := Lib.hid ((Turned.of_keep (F := fun x => x = g) hkw).trans ht fun i e => Or.inl e)
  have HM := Lib.hid hm2
  have cf := hw1.free
  have cg := hw1.c0
  clear ho hkw hw1 ht hm2 hu
  go_wp2_with fail
  obtain ⟨V, hV⟩ : ∃ V, w1.setCell ⟨g, 0, none⟩ (.int .u64 (c : Int)) = V := ⟨_, rfl⟩
  rw [hV] at HU HT HM ⊢
  clear hV cf cg
  have hsz := HT.out.size
  go_loopw [7, 8] (fun v i wr => ∃ (j n q2 : Nat) (A2 : Option Addr), j ≤ m ∧ i = .int .i64 j ∧ v = .slice A2 n q2 ∧ OwnU wr V.heap.size A2 n q2 (goneN b k c j) ∧ Keep V wr) (fun v i _ => m - (intOf i).toNat)
  case atStart => exact ⟨0, 0, 0, none, Nat.zero_le _, rfl, rfl, OwnU.none_ _ _, Keep.refl V⟩
  case round =>
    obtain ⟨j, n, q2, A2, hj, rfl, rfl, hg, hkv⟩ := hrel
    have hn : n ≤ 16 := by
      have := goneN_le b k c j
      rw [hg.length] at this
      omega
    have hM := HM.out.keep hkv
    have hs := hkv.size
    by_cases hlt2 : j < m
    · obtain ⟨p, off, x, rfl, _, hpl, hx, hc3⟩ := HU.out.at_ hlt2
      have hxe : x = b + j := by
        rw [winL_get _ _ _ (by rw [← winL_length, HL.out]; omega)] at hx
        injection hx with hx
        exact hx.symm
      have hc4 : wr.cell? ⟨p, off + j, none⟩ = some (.int .u64 (x : Int)) := (World.cell?_of_block (hkv.block p hpl)).trans hc3
      have e1 : (0 : Int) ≤ (j : Int) := Int.natCast_nonneg _
      have e2 : (j : Int) < (m : Int) := by omega
      have hin := rin_any x hM
      subst hxe
      cases hi : winIn c k (b + j) with
      | true =>
        rw [hi] at hin
        clear hx hc3
        go_wp2_with fail
        refine hin.mono ?_
        rintro e w2 ⟨rfl, k2⟩
        go_wp2_with fail
        go_roundw
        case rel => exact ⟨j + 1, n, q2, A2, by omega, by go_num, rfl, by rw [goneN_in _ _ _ _ hi]; exact hg.keep k2, hkv.trans k2⟩
        case measure => simp [intOf]; omega
      | false =>
        rw [hi] at hin
        clear hx hc3
        go_wp2_with fail
        refine hin.mono ?_
        rintro e w2 ⟨rfl, k2⟩
        have hc5 : w2.cell? ⟨p, off + j, none⟩ = some (.int .u64 ((b + j : Nat) : Int)) := (World.cell?_of_block (k2.block p (by omega))).trans hc4
        have hg2 := hg.keep k2
        have hs2 := k2.size
        clear hc4
        go_wp2_with (at_builtin; refine wpList_append_u rfl _ _ 111 rfl Tryz.underlying111 infoU rfl (hg2.alloc _) rfl (by rw [World.cell?_alloc_new]; rfl) (by omega) (by simp; omega) ?_)
        intro A3 q3 w3 h3 hg3
        have k3 : Keep V w3 := ((hkv.trans k2).alloc _ _).grown hg3 hg2.rowLe
        go_wp2_with fail
        go_roundw
        case rel => exact ⟨j + 1, n + 1, q3, A3, by omega, by go_num, rfl, by unfold OwnU; rw [u64_gone' _ _ _ _ hi]; exact h3, k3⟩
        case measure => simp [intOf]; omega
    · have d1 : ¬ (j : Int) < (m : Int) := by omega
      obtain rfl : j = m := by omega
      go_wp2_with fail
      go_ret2
      refine ⟨A2, n, q2, rfl, ?_, hM, HT.out.then_keep hkv⟩
      rw [← goneN_all, ← winL_length, HL.out]; exact hg.lower hsz
end
end Go.Proofs.YtgelalbmhllccaaGreat
