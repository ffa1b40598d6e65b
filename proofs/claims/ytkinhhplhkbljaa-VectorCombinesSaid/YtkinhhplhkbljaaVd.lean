/- The landed calls: what does not fit; multiples, products, leads, units. -/
import Derived.Test.YtkinhhplhkbljaaVc
import Derived.Laws.EntriesVeiled
namespace Go.Proofs.Ytkinhhplhkbljaa
open Go.RowKit

theorem vadd_apart (n m ca cb : Nat) (A A' : Option Addr) (w : World) (h : n ≠ m) :
    Calls Try.prog 11 #[.slice A n ca, .slice A' m cb] w (NewPair w [] 21) := by
  have b0 : ((n : Int) != (m : Int)) = true := by rw [bne_iff_ne]; omega
  go_enter Try.func11, Try.ntmps11
  go_wp2_with fail
  go_ret2
  exact ⟨none, 0, 0, rfl, Own.none_ _ _ _, (Keep.refl w).alloc _ _⟩
theorem vaddS_apart (n m ca cb c : Nat) (A A' : Option Addr) (w : World) (h : n ≠ m) :
    Calls Try.prog 13 #[.slice A n ca, .slice A' m cb, .int .u8 c] w (NewPair w [] 21) := by
  have b0 : ((n : Int) != (m : Int)) = true := by rw [bne_iff_ne]; omega
  go_enter Try.func13, Try.ntmps13
  go_wp2_with fail
  go_ret2
  exact ⟨none, 0, 0, rfl, Own.none_ _ _ _, (Keep.refl w).alloc _ _⟩
theorem vdot_apart (n m ca cb : Nat) (A A' : Option Addr) (w : World) (h : n ≠ m) :
    Calls Try.prog 15 #[.slice A n ca, .slice A' m cb] w fun e w' => e = .returned (.tuple #[.int .u8 0, .int .i64 21]) ∧ Keep w w' := by
  have b0 : ((n : Int) != (m : Int)) = true := by rw [bne_iff_ne]; omega
  go_enter Try.func15, Try.ntmps15
  go_wp2_with fail
  go_ret2
  exact ⟨rfl, (Keep.refl w).alloc _ _⟩
theorem Work.later {w wr w' : World} {g n bs : Nat} {l : List Nat} (h : Work w wr g n bs l) (k : Keep wr w') : Work w w' g n bs l :=
  ⟨h.own.keep k, h.held.keep k, h.keep.trans k, h.ne, h.new⟩
theorem Timing.later {w w' : World} {p c : Nat} (h : Timing w p c) (k : Keep w w') : Timing w' p c :=
  ⟨Nat.lt_of_lt_of_le h.1 k.size, fun j hj => ⟨(k.cell (p := ⟨p, j, none⟩) (show p < _ by have := h.1; omega)).trans (h.2 j hj).1, (k.cell (p := ⟨p + 1, j, none⟩) h.1).trans (h.2 j hj).2⟩⟩
set_option maxRecDepth 100000 in
theorem vscale_any (B n ca c : Nat) (A : Option Addr) (xs : List Nat) (w : World) (h : Bytes w B A n xs) (hB : B ≤ w.heap.size) (hn : n ≤ 140737488351232) (hc : c < 256) :
    Calls Try.prog 17 #[.slice A n ca, .int .u8 c] w (NewBytes w (vScale n xs c)) := by
  have hmk := run_make_bytes (P := Try.prog) Try.underlying22 info5 n (by omega)
  have HH := Lib.hid h
  clear h
  obtain ⟨g, hg⟩ : ∃ g, w.heap.size = g := ⟨_, rfl⟩
  have HW := Lib.hid (Work.start (n := n) (g := g) hg (Keep.refl w) (by omega))
  have HG := Lib.hid hg
  go_enter Try.func17, Try.ntmps17
  go_wp2_with fail
  refine (times_at c (g + 1 + 1) _ hc (by simp [hg])).mono ?_
  rintro e w5 ⟨rfl, ht, hk⟩
  have HK := Lib.hid hk
  have HT := Lib.hid ht
  clear ht hk hmk
  obtain ⟨p, hp⟩ : ∃ p, g + 1 + 1 = p := ⟨_, rfl⟩
  obtain ⟨bs, hbs⟩ : ∃ bs, g + 1 = bs := ⟨_, rfl⟩
  rw [hp, hbs]
  rw [hbs] at HW
  rw [hp] at HT
  have HP := Lib.hid hp
  clear hg hp
  go_wp2_with fail
  have hpc : Held (w5.alloc (.cells #[.func (.func 41) #[] #[.pointer (some ⟨p, 0, none⟩), .pointer (some ⟨p + 1, 0, none⟩)]] 53)) w5.heap.size _ 53 := Held.new rfl _ 53
  have h5 : g + 1 + 1 ≤ w5.heap.size := by have := HK.out.size; simp at this; have := HG.out; omega
  refine (scale_each (HW.out.later ((HK.out).alloc _ _)) hpc (HT.out.alloc _) (by omega) (by have := HP.out; omega) (by have := HP.out; omega) HH.out hB hn hc).mono ?_
  rintro e w6 ⟨rfl, hW⟩
  have c1 := hW.held.cell
  have HW6 := Lib.hid hW
  clear hW hpc
  go_wp2_with fail
  go_ret
  exact ⟨_, n, n, rfl, HW6.out.own, HW6.out.keep⟩
set_option maxRecDepth 100000 in
theorem vaddS_any (B B' n ca cb c : Nat) (A A' : Option Addr) (xs ys : List Nat) (w : World) (h : Bytes w B A n xs) (h' : Bytes w B' A' n ys) (hB : B ≤ w.heap.size) (hB' : B' ≤ w.heap.size) (hn : n ≤ 140737488351232) (hc : c < 256) :
    Calls Try.prog 13 #[.slice A n ca, .slice A' n cb, .int .u8 c] w (NewPair w (vAddS n xs ys c) 0) := by
  have b0 : ((n : Int) != (n : Int)) = false := by simp
  have hmk := run_make_bytes (P := Try.prog) Try.underlying22 info5 n (by omega)
  have HH := Lib.hid h
  have HH' := Lib.hid h'
  clear h h'
  obtain ⟨bb, hbb⟩ : ∃ bb, w.heap.size = bb := ⟨_, rfl⟩
  have HW := Lib.hid (Work.start (n := n) (g := bb + 1) (by simp [hbb]) ((Keep.refl w).alloc #[Value.slice A' n cb] 22) (by omega))
  have HBB := Lib.hid (((Held.new hbb (.slice A' n cb) 22).alloc (.cells (madeCells #[.int .u8 0] n) 5)).alloc (.cells #[.slice (some ⟨bb + 1, 0, none⟩) n n] 22))
  have HG := Lib.hid hbb
  go_enter Try.func13, Try.ntmps13
  go_wp2_with fail
  refine (times_at c (bb + 1 + 1 + 1) _ hc (by simp [hbb])).mono ?_
  rintro e w5 ⟨rfl, ht, hk⟩
  have HK := Lib.hid hk
  have HT := Lib.hid ht
  clear ht hk hmk
  obtain ⟨g, hg⟩ : ∃ g, bb + 1 = g := ⟨_, rfl⟩
  obtain ⟨bs, hbs⟩ : ∃ bs, g + 1 = bs := ⟨_, rfl⟩
  obtain ⟨p, hp⟩ : ∃ p, bs + 1 = p := ⟨_, rfl⟩
  rw [hg, hbs, hp]
  rw [hg, hbs] at HW
  rw [hg] at HBB HK
  rw [hg, hbs, hp] at HT
  have HP := Lib.hid (And.intro hg (And.intro hbs hp))
  clear hg hp hbs hbb
  go_wp2_with fail
  have hpc : Held (w5.alloc (.cells #[.func (.func 41) #[] #[.pointer (some ⟨p, 0, none⟩), .pointer (some ⟨p + 1, 0, none⟩)]] 53)) w5.heap.size _ 53 := Held.new rfl _ 53
  have h5 : bs + 1 ≤ w5.heap.size := by have := HK.out.size; simp at this; have := HG.out; have := HP.out; omega
  refine (adds_each (HW.out.later ((HK.out).alloc _ _)) hpc (HT.out.alloc _) ((HBB.out.keep HK.out).alloc _) (by have := HP.out; omega) (by have := HP.out; omega) (by have := HP.out; omega) (by have := HP.out; omega) HH.out HH'.out hB hB' hn hc).mono ?_
  rintro e w6 ⟨rfl, hW⟩
  have c1 := hW.held.cell
  have HW6 := Lib.hid hW
  clear hW hpc
  go_wp2_with fail
  go_ret2
  exact ⟨_, n, n, rfl, HW6.out.own, HW6.out.keep⟩
theorem Held.set {w : World} {b : Nat} {v u : Value} {t : TypeId} (h : Held w b v t) (m : Nat) : Held ((w.setCell ⟨b, 0, none⟩ u).drewN m) b u t := one_setCell h
theorem dot_each {w w3 : World} {B B' n ca cb bb bs : Nat} {A A' : Option Addr} {xs ys : List Nat} (hk : Keep w w3) (hs : Held w3 bs (.int .u8 0) 5) (hbs : w.heap.size ≤ bs) (hb : Held w3 bb (.slice A' n cb) 22) (hg : bs ≠ bb) (h : Bytes w B A n xs) (h' : Bytes w B' A' n ys) (hB : B ≤ w.heap.size) (hB' : B' ≤ w.heap.size) (hn : n ≤ 140737488351232) :
    Calls Try.prog 29 #[.slice A n ca, .func (.func 34) #[] #[.pointer (some ⟨bs, 0, none⟩), .pointer (some ⟨bb, 0, none⟩)]] w3 fun e w' => e = .returned (.tuple #[]) ∧ Held w' bs (.int .u8 (vDot n xs ys : Nat)) 5 ∧ Keep w w' := by
  refine (each_any (fun i wr => Held wr bs (.int .u8 (vDot i xs ys : Nat)) 5 ∧ Keep w wr ∧ Held wr bb (.slice A' n cb) 22) 34 _ B n ca A xs w3 hn (enters_at Try.func34 (by kernel_rfl) rfl)
    (fun i wr _ hr => h.keep hB hr.2.1) ⟨hs, hk, hb⟩ (fun i wr hi hr => ?_)).mono fun e w' he => ⟨he.1, he.2.1, he.2.2.1⟩
  obtain ⟨b2, o2, rfl, h2, hc⟩ := (h'.keep hB' hr.2.1).at_ hi
  refine (dotstep i (xs.getD i 0) (ys.getD i 0) (vDot i xs ys) bb bs n cb b2 o2 wr hr.2.2 hr.1 hc hi (h.all.getD i) (h'.all.getD i) (sumX_lt _ _ fun j _ => mulN_lt _ (h.all.getD j)) hg (by omega)).mono ?_
  rintro e w' ⟨he, m, rfl⟩
  exact ⟨he, hr.1.set m, (hr.2.1.setCell hbs _).drewN m, hr.2.2.step hg⟩
set_option maxRecDepth 100000 in
theorem vdot_any (B B' n ca cb : Nat) (A A' : Option Addr) (xs ys : List Nat) (w : World) (h : Bytes w B A n xs) (h' : Bytes w B' A' n ys) (hB : B ≤ w.heap.size) (hB' : B' ≤ w.heap.size) (hn : n ≤ 140737488351232) :
    Calls Try.prog 15 #[.slice A n ca, .slice A' n cb] w fun e w' => e = .returned (.tuple #[.int .u8 (vDot n xs ys : Nat), .int .i64 0]) ∧ Keep w w' := by
  have b0 : ((n : Int) != (n : Int)) = false := by simp
  have HH := Lib.hid h
  have HH' := Lib.hid h'
  clear h h'
  go_enter Try.func15, Try.ntmps15
  go_wp2_with fail
  have h1 := Held.new (w := w.alloc (.cells #[.slice A' n cb] 22)) (b := w.heap.size + 1) (by simp) (.int .u8 0) 5
  have h2 := (Held.new (w := w) rfl (.slice A' n cb) 22).alloc (.cells #[.int .u8 0] 5)
  refine (dot_each (((Keep.refl w).alloc _ _).alloc _ _) h1 (by omega) h2 (by omega) HH.out HH'.out hB hB' hn).mono ?_
  rintro e w4 ⟨rfl, hs, hk⟩
  have c1 := hs.cell
  have HK := Lib.hid hk
  clear hs hk h1 h2
  go_wp2_with fail
  go_ret2
  exact ⟨rfl, HK.out⟩
theorem nonzero_any (x : Nat) (b : Bool) (hb : ((x : Int) != 0) = b) (w : World) :
    Calls Try.prog 37 #[.int .u8 x] w fun e w' => e = .returned (.bool b) ∧ w = w' := by
  go_enter Try.func37, Try.ntmps37
  go_wp2_with fail
  go_ret
  exact ⟨rfl, rfl⟩
set_option maxRecDepth 100000 in
theorem index_any (B n ca : Nat) (A : Option Addr) (xs : List Nat) (w : World) (h : Bytes w B A n xs) (_hn : n ≤ 140737488351232) :
    Calls Try.prog 36 #[.slice A n ca, .func (.func 37) #[] #[]] w fun e w' => e = .returned (.int .i64 (vLead n xs)) ∧ w = w' := by
  go_enter Try.func36, Try.ntmps36
  go_wp2_with fail
  go_loop [8] (fun i => ∃ k : Nat, k ≤ n ∧ i = .int .i64 k ∧ ∀ j, j < k → xs.getD j 0 = 0) (fun i => n - (intOf i).toNat)
  case atStart => exact ⟨0, by omega, rfl, fun j hj => by omega⟩
  case round =>
    obtain ⟨k, hk, rfl, hz⟩ := hrel
    have HZ := Lib.hid hz
    clear hz
    by_cases hlt : k < n
    · obtain ⟨b1, o1, rfl, hb1, hc1⟩ := h.at_ hlt
      have hx := h.all.getD k
      by_cases h0 : xs.getD k 0 = 0
      · have hs : Hid (∀ j, j < k + 1 → xs.getD j 0 = 0) := fun j hj => by
          by_cases e : j = k
          · subst e; exact h0
          · exact HZ.out j (by omega)
        have b1' : (((xs.getD k 0 : Nat) : Int) != 0) = false := by rw [h0]; rfl
        generalize xs.getD k 0 = x at *
        have HB1 := Lib.hid b1'
        clear h0 b1'
        go_wp2_with fail
        refine (nonzero_any x false HB1.out _).mono ?_
        rintro e w1 ⟨rfl, rfl⟩
        go_wp2_with fail
        go_round
        case rel => exact ⟨k + 1, by omega, by go_num, hs.out⟩
        case measure => simp [intOf]; omega
      · have hv : Hid (vLead n xs = (k : Int)) := by
          show _ = _
          have h1 := (vLeadTo_some xs n k).2 ⟨hlt, h0, HZ.out⟩
          rw [vLead, h1]
        have b1' : (((xs.getD k 0 : Nat) : Int) != 0) = true := by rw [bne_iff_ne]; omega
        generalize xs.getD k 0 = x at *
        have HB1 := Lib.hid b1'
        clear h0 b1'
        go_wp2_with fail
        refine (nonzero_any x true HB1.out _).mono ?_
        rintro e w1 ⟨rfl, rfl⟩
        go_wp2_with fail
        go_ret
        exact ⟨by rw [hv.out]; rfl, rfl⟩
    · have hv : Hid (vLead n xs = -1) := by
        show _ = _
        have h1 := (vLeadTo_none xs n).2 fun i hi => HZ.out i (by omega)
        rw [vLead, h1]
      go_wp2_with fail
      go_ret
      exact ⟨by rw [hv.out]; rfl, rfl⟩
theorem vlead_eq (B n ca : Nat) (A : Option Addr) (xs : List Nat) (w : World) (h : Bytes w B A n xs) (hn : n ≤ 140737488351232) :
    Calls Try.prog 19 #[.slice A n ca] w fun e w' => e = .returned (.int .i64 (vLead n xs)) ∧ w = w' := by
  go_enter Try.func19, Try.ntmps19
  go_wp2_with fail
  refine (index_any B n ca A xs w h hn).mono ?_
  rintro e w1 ⟨rfl, rfl⟩
  go_wp2_with fail
  go_ret
  exact ⟨rfl, rfl⟩
theorem vlead_any (B n ca : Nat) (A : Option Addr) (xs : List Nat) (w : World) (h : Bytes w B A n xs) (_hB : B ≤ w.heap.size) (hn : n ≤ 140737488351232) :
    Calls Try.prog 19 #[.slice A n ca] w fun e w' => e = .returned (.int .i64 (vLead n xs)) ∧ Keep w w' :=
  (vlead_eq B n ca A xs w h hn).mono fun e w' he => ⟨he.1, by rw [← he.2]; exact Keep.refl _⟩
theorem vzero_any (B n ca : Nat) (A : Option Addr) (xs : List Nat) (w : World) (h : Bytes w B A n xs) (_hB : B ≤ w.heap.size) (hn : n ≤ 140737488351232) :
    Calls Try.prog 21 #[.slice A n ca] w fun e w' => e = .returned (.bool (decide (vLead n xs < 0))) ∧ Keep w w' := by
  go_enter Try.func21, Try.ntmps21
  go_wp2_with fail
  refine (vlead_eq B n ca A xs w h hn).mono ?_
  rintro e w1 ⟨rfl, rfl⟩
  go_wp2_with fail
  go_ret
  exact ⟨rfl, Keep.refl _⟩
theorem vunit_out (n i : Int) (h : n < 0 ∨ 70000 < n ∨ i < 0 ∨ n ≤ i) (w : World) :
    Calls Try.prog 25 #[.int .i64 n, .int .i64 i] w (NewPair w [] 1) := by
  by_cases h1 : n < 0
  · go_enter Try.func25, Try.ntmps25
    go_wp2
    go_ret2
    exact NewPair.nil w 1
  by_cases h2 : 70000 < n
  · go_enter Try.func25, Try.ntmps25
    go_wp2
    go_ret2
    exact NewPair.nil w 1
  by_cases h3 : i < 0
  · go_enter Try.func25, Try.ntmps25
    go_wp2
    go_ret2
    exact NewPair.nil w 1
  have h4 : n ≤ i := by omega
  clear h
  go_enter Try.func25, Try.ntmps25
  go_wp2
  go_ret2
  exact NewPair.nil w 1
set_option maxRecDepth 100000 in
theorem vunit_in (n i : Nat) (hi : i < n) (hn : n ≤ 70000) (w : World) :
    Calls Try.prog 25 #[.int .i64 n, .int .i64 i] w (NewPair w (vUnit n i) 0) := by
  have hmk := run_make_bytes (P := Try.prog) Try.underlying22 info5 n (by omega)
  have e1 : (0 : Int) ≤ (i : Int) := Int.natCast_nonneg _
  have e2 : (i : Int) < (n : Int) := by omega
  have e3 : (n : Int) ≤ 70000 := by omega
  have hm := Own.made w 5 n (by omega)
  have hc := hm.cell hi
  have hf := hm.frozen i
  have hs := hm.stored (i := i) (v := 1) (by decide)
  rw [World.setCell_alloc_new, vUnit_set n i] at hs
  have HS := Lib.hid hs
  clear hs
  generalize (List.replicate n 0).getD i 0 = z at hc
  clear hm
  go_enter Try.func25, Try.ntmps25
  go_wp2_with fail
  go_ret2
  exact ⟨_, n, n, rfl, HS.out, (Keep.refl w).alloc _ _⟩
end Go.Proofs.Ytkinhhplhkbljaa
