/- The landed pad: Chunks. -/
import Derived.Test.YtgelalbmhllccaaGreatQam
import Derived.Deep.LoopGhost
import Derived.Laws.EntriesVeiled
import Derived.Test.YtgelalbmhllccaaGreatQal
import Derived.Test.YtgelalbmhllccaaGreatQab
import Derived.Deep.DeepCutAuto
import Derived.Deep.CutBlock
import Derived.Stop.RegionWithIn
import Derived.Test.YtgelalbmhllccaaGreatQae
import Derived.RangeFuncBox
import Derived.OwnWalk
namespace Go.Proofs.YtgelalbmhllccaaGreat
open Go.RowKit
set_option linter.unusedVariables false
set_option linter.unusedSimpArgs false
/-- What Chunks hands back: rows of its own, and what is open. -/
def NewCh (w : World) (M : List (List Nat)) (O : List Nat) (er : Int) (e : Ending) (w' : World) : Prop :=
  ∃ A n c A' n' c' rs, e = .returned (.tuple #[.slice A n c, .slice A' n' c', .int .i64 er]) ∧ Laying w w' A n c rs ∧ rowsXs rs = M ∧ LiesIn w' (fun b => w.heap.size ≤ b ∧ b < w'.heap.size) ⟨A', n', c', O⟩ ∧ Keep w w'
theorem NewCh.nil {w w' : World} (k : Keep w w') (er : Int) : NewCh w [] [] er (.returned (.tuple #[.slice none 0 0, .slice none 0 0, .int .i64 er])) w' :=
  ⟨none, 0, 0, none, 0, 0, [], rfl, (Laying.nothing w).later k, rfl, LiesIn.nothing _ _, k⟩
theorem good_of {n m : Nat} {cs : List Nat} (hl : cs.length = m) (hle : ∀ x ∈ cs, x ≤ n) (hso : ∀ (i j x y : Nat), i ≤ j → cs[i]? = some x → cs[j]? = some y → x ≤ y) : GoodC n (cs.map fun x : Nat => (x : Int)) m := fun i z hi hz => by
  rw [List.getElem?_map] at hz
  cases hx : cs[i]? with
  | none => rw [hx] at hz; cases hz
  | some x =>
    rw [hx] at hz
    have hz : (x : Int) = z := by simpa using hz
    subst hz
    refine ⟨by omega, by have := hle x (List.mem_of_getElem? hx); omega, fun y h0 hy => ?_⟩
    rw [List.getElem?_map] at hy
    cases hy' : cs[i - 1]? with
    | none => rw [hy'] at hy; cases hy
    | some y' =>
      rw [hy'] at hy
      have hy : (y' : Int) = y := by simpa using hy
      subst hy
      have := hso (i - 1) i y' x (by omega) hy' hx
      omega
set_option maxRecDepth 100000 in
set_option maxHeartbeats 4000000 in
theorem pchunks_in (G S P n m : Nat) (g1 : 1 ≤ G) (g2 : G ≤ 255) (s1 : 1 ≤ S) (s2 : S ≤ 65535) (hP : (G : Int) * (S : Int) = (P : Int)) (p1 : 5 ≤ P) (p2 : P ≤ 16711425) (hn : n ≤ 100000) (hm : m ≤ 140737488351232) (A A' : Option Addr) (c c' : Nat) (xs cs : List Nat) (w : World) (h : Bytes w w.heap.size A n xs) (hc : n ≤ c) (h' : IntsAt w w.heap.size A' m (cs.map fun x : Nat => (x : Int))) (hle : ∀ x ∈ cs, x ≤ n) (hso : ∀ (i j x y : Nat), i ≤ j → cs[i]? = some x → cs[j]? = some y → x ≤ y) :
    Calls Tryz.prog 94 #[.slice A n c, .slice A' m c', .int .i64 (G : Int), .int .i64 (S : Int)] w (NewCh w (chunkN (P - 4) cs xs (n + 1)).1 (xs.drop (chunkN (P - 4) cs xs (n + 1)).2) 0) := by
  have hmf : ∀ (fn : Fn) (first cap : Array Value) (w : World), (Instr.makeFunc fn first cap).run Tryz.prog w = .ok (.func fn first cap) w := fun _ _ _ _ => rfl
  have H := Lib.hid h
  have HI := Lib.hid h'
  have HXL : Hid (xs.length = n) := h.length
  have HML : Hid (cs.length = m) := by have := h'.1; rwa [List.length_map] at this
  have HLE := Lib.hid hle
  have HSO := Lib.hid hso
  obtain ⟨room, hroom⟩ : ∃ room, P - 4 = room := ⟨_, rfl⟩
  have hr1 : 1 ≤ room := by omega
  have hrb : room ≤ 16711421 := by omega
  have HRC := Lib.hid (proom_in G S P g1 g2 s1 s2 hP p1 p2 w)
  rw [hroom] at HRC ⊢
  have HAC := Lib.hid (arecuts_any n m (by omega) hm A' c' _ w h')
  have HGC := Lib.hid (good_of HML.out hle hso)
  clear h h' hle hso hroom hP
  go_enter Tryz.func94, Tryz.ntmps94
  go_wp2_with fail
  refine HRC.out.mono ?_
  rintro e w1 ⟨rfl, rfl⟩
  go_wp2_with fail
  refine HAC.out.mono ?_
  rintro e w1 ⟨⟨q, rfl, hq⟩, rfl⟩
  obtain rfl : q = true := hq.2 HGC.out
  clear hq
  go_wp2_with fail
  refine (clone_any w.heap.size n c A xs _ (H.out.keep (Nat.le_refl _) ((Keep.refl w).alloc _ _)) (by simp) (by omega)).mono ?_
  rintro e w2 ⟨A2, n2, c2, rfl, o2, k2⟩
  have hn2 : n = n2 := by have := o2.length; rw [HXL.out] at this; exact this
  subst hn2
  go_wp2_with fail
  refine (handing_any A2 n c2 w2).mono ?_
  rintro e w3 ⟨rfl, hw3⟩
  obtain ⟨gC, hgC⟩ : ∃ gC, w2.heap.size = gC := ⟨_, rfl⟩
  obtain ⟨B2, hB2⟩ : ∃ B2, w3.heap.size = B2 := ⟨_, rfl⟩
  rw [hgC]
  obtain ⟨B1, hB1⟩ : ∃ B1, w.heap.size = B1 := ⟨_, rfl⟩
  obtain ⟨b, hb⟩ : ∃ b, 0 < n → A2 = some ⟨b, 0, none⟩ ∧ B1 < b ∧ b < gC := by
    by_cases h0 : 0 < n
    · obtain ⟨g, e1, e2, e3⟩ := o2.block h0
      exact ⟨g, fun _ => ⟨e1, by simp at e2; omega, by omega⟩⟩
    · exact ⟨0, fun h => absurd h h0⟩
  have hgw : B1 < gC := by have := k2.size; simp at this; omega
  have hB2g : B2 = gC + 1 := by rw [← hB2, hw3, ← hgC]; simp
  have hcn : n ≤ c2 := own_le o2
  have q1 : ((w3.alloc (.cells #[.nilFunc] 203)).alloc (.cells #[.int .i64 0] 3)).cell? ⟨B2, 0, none⟩ = some .nilFunc := by
    rw [World.cell?_alloc_past _ _ _ (by simp; omega), ← hB2, World.cell?_alloc_at _ _ _ _ rfl]; rfl
  have q2 : ((w3.alloc (.cells #[.nilFunc] 203)).alloc (.cells #[.int .i64 0] 3)).frozen? ⟨B2, 0, none⟩ = false := by
    rw [World.frozen?_alloc_past _ _ _ (by simp; omega), ← hB2]; exact World.frozen?_alloc_at _ _ _ _ rfl
  have HK : Hid (ChK w B1 B2 (B2 + 1) gC b (B2 + 2) n c2) := ⟨by omega, hgw, by omega, by omega, by omega, fun h0 => ⟨(hb h0).2.1, (hb h0).2.2⟩, hcn, hn⟩
  obtain ⟨w4, hw4⟩ : ∃ w4, w3.alloc (.cells #[.func (.func 154) #[] #[.pointer (some ⟨gC, 0, none⟩)]] 203) = w4 := ⟨_, rfl⟩
  obtain ⟨w5, hw5⟩ : ∃ w5, w4.alloc (.cells #[.int .i64 0] 3) = w5 := ⟨_, rfl⟩
  have k1 : Keep w (w.alloc (.cells #[.slice none 0 0] 40)) := (Keep.refl w).alloc _ _
  have k3 : Keep w2 w3 := by rw [hw3]; exact (Keep.refl w2).alloc _ _
  have k4 : Keep w3 w4 := by rw [← hw4]; exact (Keep.refl w3).alloc _ _
  have k5 : Keep w4 w5 := by rw [← hw5]; exact (Keep.refl w4).alloc _ _
  have hs4 : w4.heap.size = B2 + 1 := by rw [← hw4, ← hB2]; simp
  have hs5 : w5.heap.size = B2 + 2 := by rw [← hw5]; simp [hs4]
  have v2 : Var1 w4 B2 (.func (.func 154) #[] #[.pointer (some ⟨gC, 0, none⟩)]) 203 := by rw [← hw4, ← hB2]; exact heap_alloc_new w3 _
  have v3 : Var1 w5 (B2 + 1) (.int .i64 ((0 : Nat) : Int)) 3 := by rw [← hw5, ← hs4]; exact heap_alloc_new w4 _
  have vC : Cur w3 gC n c2 A2 := by rw [hw3, ← hgC]; exact heap_alloc_new w2 _
  have v1 : Var1 (w.alloc (.cells #[.slice none 0 0] 40)) B1 (.slice none 0 0) 40 := by rw [← hB1]; exact heap_alloc_new w _
  have HST : Hid (ChSt w B1 B2 (B2 + 1) gC b (B2 + 2) n c2 xs w5 0 []) := by
    refine ⟨⟨v2.turned (F := fun _ => False) (Turned.of_keep k5) (fun e => e), v3, ⟨A2, by rw [Nat.sub_zero, Nat.sub_zero]; exact (vC.keep k4).keep k5, fun h0 => (hb h0).1⟩, ⟨HXL.out, o2.2, fun j hj => ?_⟩, ((k1.trans k2).trans k3).trans (k4.trans k5)⟩, Nat.zero_le _, Nat.le_refl _, by rw [hs5]; exact Nat.le_refl _, none, 0, 0, [], ?_, ⟨OwnRows.none_ _ _ _, fun r hr => by simp at hr⟩, rfl⟩
    · obtain ⟨e1, e2, e3⟩ := hb (by omega)
      subst e1
      have := (o2.keep (k3.trans (k4.trans k5))).cell (i := j) hj
      exact this
    · exact v1.turned (F := fun _ => False) (Turned.of_keep (k2.trans (k3.trans (k4.trans k5)))) (fun e => e)
  have HW5 := Lib.hid (And.intro hw4 hw5)
  have HB1 := Lib.hid hB1
  clear hw3 hgC o2 k2 hb hB2g k1 k3 k4 k5 hs4 hs5 v2 v3 vC v1 hw4 hw5 hgw hcn
  have q3 : (w4.alloc (.cells #[.int .i64 0] 3)).cell? ⟨B2 + 1, 0, none⟩ = some (.int .i64 0) := by
    rw [HW5.out.2]; exact HST.out.1.pos.cell
  go_wp2_with fail
  rw [HW5.out.1, HW5.out.2]
  clear q1 q2 q3
  go_loopw [40] (fun iv wr => ∃ (i at_ : Nat) (C : List (List Nat)), i ≤ m ∧ iv = .int .i64 i ∧ ChSt w B1 B2 (B2 + 1) gC b (B2 + 2) n c2 xs wr at_ C ∧ chunkN room cs xs (at_ + 1) = (C, at_) ∧ (∀ (j x : Nat), j < i → cs[j]? = some x → x ≤ at_) ∧ (∀ (j x : Nat), i ≤ j → cs[j]? = some x → at_ ≤ x)) (fun iv _ => m - (intOf iv).toNat)
  case atStart => exact ⟨0, 0, [], by omega, rfl, HST.out, chunk_start hr1, fun j x hj => by omega, fun j x _ _ => Nat.zero_le _⟩
  case round =>
    clear HST
    obtain ⟨i, at_, C, hi, rfl, hst, hch, hlo, hhi⟩ := hrel
    have HS := Lib.hid hst
    have HC := Lib.hid hch
    have HLO := Lib.hid hlo
    have HHI := Lib.hid hhi
    have f1 : (0 : Int) ≤ (i : Int) := Int.natCast_nonneg _
    clear hst hch hlo hhi
    by_cases hlt : i < m
    · have f2 : (i : Int) < (m : Int) := by omega
      obtain ⟨bI, off, rfl, hbI, hcell⟩ := (HI.out.keep (Nat.le_refl _) HS.out.1.kp).2 (by omega)
      have hx := List.getElem?_eq_getElem (l := cs) (i := i) (by rw [HML.out]; exact hlt)
      obtain ⟨x, hxx⟩ : ∃ x, cs[i]'(by rw [HML.out]; exact hlt) = x := ⟨_, rfl⟩
      rw [hxx] at hx
      have c1 := hcell i (x : Int) (by rw [List.getElem?_map, hx]; rfl)
      have hxn := HLE.out x (List.mem_of_getElem? hx)
      have HX := Lib.hid hx
      have hax := HHI.out i x (Nat.le_refl _) hx
      clear hx hxx hcell hbI
      go_wp2_with fail
      go_loopg [] (x - at_) (fun g wy => ∃ (a2 : Nat) (C2 : List (List Nat)), a2 + g = x ∧ at_ ≤ a2 ∧ ChSt w B1 B2 (B2 + 1) gC b (B2 + 2) n c2 xs wy a2 C2 ∧ chunkN room cs xs (a2 + 1) = (C2, a2))
      case atStart => exact ⟨at_, C, by omega, Nat.le_refl _, HS.out, HC.out⟩
      case round =>
        clear HS HC c1
        obtain ⟨a2, C2, hg, haa, hst, hch⟩ := hrel
        have HS := Lib.hid hst
        have HC := Lib.hid hch
        have p0 := hst.1.pos.cell
        clear hst hch
        cases gk with
        | zero =>
          obtain rfl : a2 = x := by omega
          go_wp2_with fail
          go_roundw
          case rel => exact ⟨i + 1, a2, C2, by omega, by go_num, HS.out, HC.out, fun j y hj hy => HSO.out j i y a2 (by omega) hy HX.out, fun j y hj hy => HSO.out i j a2 y (by omega) HX.out hy⟩
          case measure => simp [intOf]; omega
        | succ g =>
          have e1 : (a2 : Int) < (x : Int) := by omega
          obtain ⟨d, hd⟩ : ∃ d, x - a2 = d := ⟨_, rfl⟩
          have e2 : IntKind.i64.wrap ((x : Int) - (a2 : Int)) = (d : Int) := by rw [show (x : Int) - (a2 : Int) = (d : Int) by omega]; exact IntWalk.i64_in _ (by omega)
          have hno : Hid (∀ t, a2 < t → t < x → t ∉ cs) := fun t h1 h2 h3 => by
            obtain ⟨j, hj, e⟩ := List.getElem_of_mem h3
            have hjt : cs[j]? = some t := by rw [List.getElem?_eq_getElem hj, e]
            rcases Nat.lt_or_ge j i with h4 | h4
            · have := HLO.out j t h4 hjt; omega
            · have := HSO.out i j x t h4 HX.out hjt; omega
          have HD := Lib.hid hd
          by_cases hmin : room ≤ d
          · have m1 : (room : Int) ≤ (d : Int) := by omega
            have m2 : min (room : Int) (d : Int) = (room : Int) := by omega
            have hcall := Lib.hid (chunk_any w wr B1 B2 (B2 + 1) gC b (B2 + 2) n c2 a2 room xs C2 HK.out HS.out hr1 (by omega))
            clear hd
            go_wp2_with fail
            refine hcall.out.mono ?_
            rintro e wz ⟨rfl, hz⟩
            have HZ := Lib.hid hz
            clear hz
            go_wp2_with fail
            go_roundg (x - (a2 + room))
            case rel => exact ⟨a2 + room, _, by have := HD.out; omega, by omega, HZ.out, chunk_step HC.out hr1 (Nat.le_refl _) (fun t h1 h2 => hno.out t h1 (by have := HD.out; omega)) (Or.inl rfl)⟩
            case measure => omega
          · have m1 : ¬ (room : Int) ≤ (d : Int) := by omega
            have m2 : min (room : Int) (d : Int) = (d : Int) := by omega
            have hcall := Lib.hid (chunk_any w wr B1 B2 (B2 + 1) gC b (B2 + 2) n c2 a2 d xs C2 HK.out HS.out (by omega) (by omega))
            clear hd
            go_wp2_with fail
            refine hcall.out.mono ?_
            rintro e wz ⟨rfl, hz⟩
            have HZ := Lib.hid hz
            clear hz
            go_wp2_with fail
            go_roundg 0
            case rel => exact ⟨a2 + d, _, by have := HD.out; omega, by omega, HZ.out, chunk_step HC.out (by have := HD.out; omega) (by omega) (fun t h1 h2 => hno.out t h1 (by have := HD.out; omega)) (Or.inr (by rw [show a2 + d = x by have := HD.out; omega]; exact List.mem_of_getElem? HX.out))⟩
            case measure => omega
    · obtain rfl : i = m := by omega
      have hcs : Hid (∀ x ∈ cs, x ≤ at_) := fun x hx => by
        obtain ⟨j, hj, e⟩ := List.getElem_of_mem hx
        exact HLO.out j x (by rw [← HML.out]; exact hj) (by rw [List.getElem?_eq_getElem hj, e])
      have hatn := HS.out.2.1
      clear HLO HHI
      go_wp2_with fail
      go_loopg [] (n - at_) (fun g wy => ∃ (a2 : Nat) (C2 : List (List Nat)), a2 + g = n ∧ at_ ≤ a2 ∧ ChSt w B1 B2 (B2 + 1) gC b (B2 + 2) n c2 xs wy a2 C2 ∧ chunkN room cs xs (a2 + 1) = (C2, a2))
      case atStart => exact ⟨at_, C, by omega, Nat.le_refl _, HS.out, HC.out⟩
      case round =>
        clear HS HC
        obtain ⟨a2, C2, hg, haa, hst, hch⟩ := hrel
        have HS := Lib.hid hst
        have HC := Lib.hid hch
        have p0 := hst.1.pos.cell
        clear hst hch
        obtain ⟨d, hd⟩ : ∃ d, n - a2 = d := ⟨_, rfl⟩
        have e2 : IntKind.i64.wrap ((n : Int) - (a2 : Int)) = (d : Int) := by rw [show (n : Int) - (a2 : Int) = (d : Int) by omega]; exact IntWalk.i64_in _ (by omega)
        have HD := Lib.hid hd
        by_cases hrd : room ≤ d
        · have m1 : decide ((room : Int) ≤ (d : Int)) = true := decide_eq_true (by omega)
          have m2 : (room : Int) ≤ (d : Int) := by omega
          have hcall := Lib.hid (chunk_any w wr B1 B2 (B2 + 1) gC b (B2 + 2) n c2 a2 room xs C2 HK.out HS.out hr1 (by omega))
          clear hd
          go_wp2_with fail
          refine hcall.out.mono ?_
          rintro e wz ⟨rfl, hz⟩
          have HZ := Lib.hid hz
          clear hz
          go_wp2_with fail
          go_roundg (n - (a2 + room))
          case rel => exact ⟨a2 + room, _, by have := HD.out; omega, by omega, HZ.out, chunk_step HC.out hr1 (Nat.le_refl _) (fun t h1 h2 h3 => by have := hcs.out t h3; omega) (Or.inl rfl)⟩
          case measure => have := HD.out; omega
        · have m1 : decide ((room : Int) ≤ (d : Int)) = false := decide_eq_false (by omega)
          have m2 : ¬ (room : Int) ≤ (d : Int) := by omega
          have hfin := chunk_rest HC.out (n := n) (by omega) (by omega) (fun t h1 h2 h3 => by have := hcs.out t h3; omega)
          have HF := Lib.hid hfin
          obtain ⟨hb, hat2, hlen, hbase, Ar, kr, cr, rs, hv, hr, hx⟩ := HS.out
          obtain ⟨Ac, hcu, hAc⟩ := hb.cur
          rw [hd] at hcu
          have HB := Lib.hid hb
          have HR := Lib.hid hr
          have HXS := Lib.hid hx
          have HAc := Lib.hid hAc
          have c1 := hv.cell
          have c2' := hb.fn.cell
          have hKK := HK.out
          have HH := Lib.hid (fun wz (hz : Cur wz gC d (c2 - a2) Ac) => hand_any gC d d (c2 - a2) Ac (Nat.le_refl _) (by have := hKK.oc.1; omega) wz hz)
          have HCU := Lib.hid hcu
          clear hd hfin hb hr hx hAc hcu hv hlen
          go_wp2_with fail
          refine wp_region_noPanic ?_
          refine wp_region_held_drew (S := fun wz => wz.cell? ⟨B1, 0, none⟩ = some (.slice Ar kr cr) ∧ wz.cell? ⟨B2, 0, none⟩ = some (.func (.func 154) #[] #[.pointer (some ⟨gC, 0, none⟩)]) ∧ wz.cell? ⟨B2 + 1, 0, none⟩ = some (.int .i64 (a2 : Int))) (by kernel_rfl) ⟨c1, c2', p0⟩ (fun hHeld => ?_)
          refine wpAnyH_take (i := 0) (v := ?_) rfl (by kernel_rfl) (by kernel_rfl) (by kernel_rfl) (fun _ _ _ h => h) (Or.inl ⟨by rfl, ?_⟩) hHeld ?_
          rotate_left
          · intro wq hSw
            have q0 := hSw.1
            go_simp
            all_goals with_reducible rfl
          try simp only [Act.put, List.getElem_toArray, List.getElem_cons_succ, List.getElem_cons_zero, List.setIfInBounds_toArray, List.set_cons_zero, List.set_cons_succ]
          refine wpAnyH_take (i := 1) (v := ?_) rfl (by kernel_rfl) (by kernel_rfl) (by kernel_rfl) (fun _ _ _ h => h) (Or.inl ⟨by rfl, ?_⟩) hHeld ?_
          rotate_left
          · intro wq hSw
            have q0 := hSw.2.1
            go_simp
            all_goals with_reducible rfl
          try simp only [Act.put, List.getElem_toArray, List.getElem_cons_succ, List.getElem_cons_zero, List.setIfInBounds_toArray, List.set_cons_zero, List.set_cons_succ]
          refine wpAnyH_take (i := 2) (v := ?_) rfl (by kernel_rfl) (by kernel_rfl) (by kernel_rfl) (fun _ _ _ h => h) (Or.inl ⟨by rfl, ?_⟩) hHeld ?_
          rotate_left
          · intro wq hSw
            go_simp
            all_goals with_reducible rfl
          try simp only [Act.put, List.getElem_toArray, List.getElem_cons_succ, List.getElem_cons_zero, List.setIfInBounds_toArray, List.set_cons_zero, List.set_cons_succ]
          refine wpAnyH_take (i := 3) (v := ?_) rfl (by kernel_rfl) (by kernel_rfl) (by kernel_rfl) (fun _ _ _ h => h) (Or.inl ⟨by rfl, ?_⟩) hHeld ?_
          rotate_left
          · intro wq hSw
            go_simp
            all_goals with_reducible rfl
          try simp only [Act.put, List.getElem_toArray, List.getElem_cons_succ, List.getElem_cons_zero, List.setIfInBounds_toArray, List.set_cons_zero, List.set_cons_succ]
          refine wpAnyH_take (i := 4) (v := ?_) rfl (by kernel_rfl) (by kernel_rfl) (by kernel_rfl) (fun _ _ _ h => h) (Or.inl ⟨by rfl, ?_⟩) hHeld ?_
          rotate_left
          · intro wq hSw
            have q0 := hSw.2.2
            go_simp
            all_goals with_reducible rfl
          try simp only [Act.put, List.getElem_toArray, List.getElem_cons_succ, List.getElem_cons_zero, List.setIfInBounds_toArray, List.set_cons_zero, List.set_cons_succ]
          refine wpAnyH_take (i := 5) (v := ?_) rfl (by kernel_rfl) (by kernel_rfl) (by kernel_rfl) (fun _ _ _ h => h) (Or.inl ⟨by rfl, ?_⟩) hHeld ?_
          rotate_left
          · intro wq hSw
            go_simp
            all_goals with_reducible rfl
          try simp only [Act.put, List.getElem_toArray, List.getElem_cons_succ, List.getElem_cons_zero, List.setIfInBounds_toArray, List.set_cons_zero, List.set_cons_succ]
          refine wpAnyH_ready (rs := [6]) (by kernel_rfl) (by simp) ?_
          refine AllReadyH.cons rfl (fun K hK => ?_) AllReadyH.nil
          go_simp
          refine (HH.out wr.drew HCU.out).mono ?_
          rintro e w1 ⟨rfl, rfl⟩
          have s1 : (wr.drew.setCell ⟨gC, 0, none⟩ (.slice (dropA Ac (c2 - a2) d) (d - d) (c2 - a2 - d))).cell? ⟨B1, 0, none⟩ = some (.slice Ar kr cr) := by rw [World.cell?_setCell_far _ _ _ _ (by show gC ≠ B1; have := hKK.o2; omega)]; exact c1
          have s2 : (wr.drew.setCell ⟨gC, 0, none⟩ (.slice (dropA Ac (c2 - a2) d) (d - d) (c2 - a2 - d))).cell? ⟨B2, 0, none⟩ = some (.func (.func 154) #[] #[.pointer (some ⟨gC, 0, none⟩)]) := by rw [World.cell?_setCell_far _ _ _ _ (by show gC ≠ B2; have := hKK.o3; omega)]; exact c2'
          have s3 : (wr.drew.setCell ⟨gC, 0, none⟩ (.slice (dropA Ac (c2 - a2) d) (d - d) (c2 - a2 - d))).cell? ⟨B2 + 1, 0, none⟩ = some (.int .i64 (a2 : Int)) := by rw [World.cell?_setCell_far _ _ _ _ (by show gC ≠ B2 + 1; have := hKK.o3; omega)]; exact p0
          refine hK.out _ _ ⟨s1, s2, s3⟩ (fun hHeld => ?_)
          clear hK K
          try simp only [Act.put, List.getElem_toArray, List.getElem_cons_succ, List.getElem_cons_zero, List.setIfInBounds_toArray, List.set_cons_zero, List.set_cons_succ]
          refine wpAnyH_take (i := 7) (v := ?_) rfl (by kernel_rfl) (by kernel_rfl) (by kernel_rfl) (fun _ _ _ h => h) (Or.inl ⟨by rfl, ?_⟩) hHeld ?_
          rotate_left
          · intro wq hSw
            go_simp
            all_goals with_reducible rfl
          try simp only [Act.put, List.getElem_toArray, List.getElem_cons_succ, List.getElem_cons_zero, List.setIfInBounds_toArray, List.set_cons_zero, List.set_cons_succ]
          refine wpAnyH_take (i := 8) (v := ?_) rfl (by kernel_rfl) (by kernel_rfl) (by kernel_rfl) (fun _ _ _ h => h) (Or.inl ⟨by rfl, ?_⟩) hHeld ?_
          rotate_left
          · intro wq hSw
            go_simp
            all_goals with_reducible rfl
          try simp only [Act.put, List.getElem_toArray, List.getElem_cons_succ, List.getElem_cons_zero, List.setIfInBounds_toArray, List.set_cons_zero, List.set_cons_succ]
          refine wpAnyH_take (i := 9) (v := ?_) rfl (by kernel_rfl) (by kernel_rfl) (by kernel_rfl) (fun _ _ _ h => h) (Or.inl ⟨by rfl, ?_⟩) hHeld ?_
          rotate_left
          · intro wq hSw
            go_simp
            all_goals with_reducible rfl
          try simp only [Act.put, List.getElem_toArray, List.getElem_cons_succ, List.getElem_cons_zero, List.setIfInBounds_toArray, List.set_cons_zero, List.set_cons_succ]
          refine wpAnyH_done (by kernel_rfl) ?_ _
          refine NoPanic.normal ?_
          clear hHeld
          clear s1 s2 s3 c1 c2' p0
          have t6 : Turned (fun x => x = gC) wr (wr.drew.setCell ⟨gC, 0, none⟩ (.slice (dropA Ac (c2 - a2) d) (d - d) (c2 - a2 - d))) := (Turned.of_keep (Keep.drew (Keep.refl wr))).trans (Turned.set (F := fun x => x = gC) wr.drew _ _ rfl) fun x e => Or.inl e
          have HT6 := Lib.hid t6
          generalize wr.drew.setCell ⟨gC, 0, none⟩ (.slice (dropA Ac (c2 - a2) d) (d - d) (c2 - a2 - d)) = w9 at *
          clear t6
          go_wp2_with fail
          go_ret3
          have k9 : Keep w w9 := HT6.out.keep HB.out.kp fun x e => by have e : x = gC := e; have := hKK.o1; have := hKK.o2; omega
          have hr9 := HR.out.turned HT6.out (fun x hx e => by have e : x = gC := e; have := HR.out.own.rowLe x hx; have := hKK.o3; have := hKK.o4; have := hKK.o5; omega) (fun hp e => by have e : b = gC := e; have := hKK.ob hp; omega)
          have hb9 : 0 < n → b < w9.heap.size := fun hp => by have h1 := hKK.ob hp; have h2 := hKK.o3; have h3 := hKK.o4; have h4 := hKK.o5; have h5 := HT6.out.size; omega
          refine ⟨Ar, kr, cr, Ac, d, d, rs, rfl, ⟨OwnRows.lower hr9.own (by have h1 := hKK.o1; have h2 := hKK.o2; have h3 := hKK.o3; have h4 := hKK.o4; have h5 := hKK.o5; omega), fun r hr => (hr9.lie r hr).mono fun x hx => ?_, k9⟩, by rw [HF.out]; exact HXS.out, ?_, k9⟩
          · have h1 := hKK.ob hx.2
            have h2 := hb9 hx.2
            have h3 := hx.1
            have h4 := hKK.o1
            refine ⟨by omega, by omega, fun e => ?_⟩
            have := HR.out.own.rowLe x e
            have h5 := hKK.o3; have h6 := hKK.o4; have h7 := hKK.o5
            omega
          · rw [HF.out]
            show LiesIn w9 _ ⟨Ac, d, d, xs.drop a2⟩
            have hDD := HD.out
            by_cases h0 : 1 ≤ d
            · have hp := ChR.piece HB.out h0 (by omega)
              have e : pieceN xs a2 (a2 + d) = xs.drop a2 := by
                rw [pieceN, Nat.add_sub_cancel_left]
                exact List.take_of_length_le (by rw [List.length_drop, HXL.out]; omega)
              rw [e] at hp
              rw [HAc.out (by omega)]
              exact (hp.turned HT6.out fun x hx e => by have e : x = gC := e; have h1 := hKK.ob hx.2; have h2 := hx.1; omega).mono fun x hx => by
                have h1 := hKK.ob hx.2
                have h2 := hb9 hx.2
                have h3 := hx.1
                have h4 := hKK.o1
                exact ⟨by omega, by omega⟩
            · obtain rfl : d = 0 := by omega
              rw [List.drop_of_length_le (by rw [HXL.out]; omega)]
              exact ⟨rfl, fun _ h => by simp at h, Nat.le_refl _, fun h => absurd h (by simp)⟩
end Go.Proofs.YtgelalbmhllccaaGreat
/- Layer 9's statements: sizes brought into 1 to 40. -/
namespace Go.Proofs.YtgelalbmhllccaaGreat
open Go.RowKit
set_option linter.unusedVariables false
set_option linter.unusedSimpArgs false
end Go.Proofs.YtgelalbmhllccaaGreat
/- The contracts of layer 9 for any sizes. -/
namespace Go.Proofs.YtgelalbmhllccaaGreat
open Go.RowKit
set_option linter.unusedVariables false
set_option linter.unusedSimpArgs false
def roomV (g s : Int) : Int := if MayG g s then g * s - 4 else 0
def roomE (g s : Int) : Int := if MayG g s then 0 else 1
theorem proom_any (g s : Int) (w : World) : Calls Tryz.prog 31 #[.int .i64 g, .int .i64 s] w fun e w' => e = .returned (.tuple #[.int .i64 (roomV g s), .int .i64 (roomE g s)]) ∧ w = w' := by
  by_cases h : MayG g s
  · rw [roomV, roomE, if_pos h, if_pos h]
    obtain ⟨G, S, P, rfl, rfl, a1, a2, a3, a4, a5, a6, a7, a8⟩ := h.nat
    have := proom_in G S P a1 a2 a3 a4 a8 a6 a7 w
    rwa [a8, show (P : Int) - 4 = ((P - 4 : Nat) : Int) by omega]
  · rw [roomV, roomE, if_neg h, if_neg h]
    exact proom_out g s h w
def layE (g s : Int) (xs : List Nat) : Int := if ¬ MayG g s then 1 else if xs.length = 0 then 4 else if g * s < (xs.length : Int) + 4 then 3 else 0
def layR (g s : Int) (xs : List Nat) : List (List Nat) := if layE g s xs = 0 then layN g.toNat s.toNat xs else []
/-- Rows whose first bytes may be turned. -/
def TurnAt (w : World) (base : Nat) (A : Option Addr) (n : Nat) : Prop :=
  n = 0 ∨ ∃ gr b S c P ys, A = some ⟨gr, 0, none⟩ ∧ base ≤ gr ∧ gr < w.heap.size ∧ base ≤ b ∧ b ≠ gr ∧ 1 ≤ S ∧ (∀ k, k < n → k * S < P) ∧ (∀ k, k < n → w.cell? ⟨gr, k, none⟩ = some (.slice (some ⟨b, k * S, none⟩) S S)) ∧ Own w base 5 (some ⟨b, 0, none⟩) P c ys
def NewLay (w : World) (M : List (List Nat)) (er : Int) (e : Ending) (w' : World) : Prop :=
  ∃ A n c, e = .returned (.tuple #[.slice A n c, .int .i64 er]) ∧ (∃ rs, RowsIn w' (fun b => w.heap.size ≤ b ∧ b < w'.heap.size) A n rs ∧ n ≤ c ∧ rowsXs rs = M) ∧ TurnAt w' w.heap.size A n ∧ n ≤ 255 ∧ Keep w w'
theorem NewLay.nil (w : World) (er : Int) : NewLay w [] er (.returned (.tuple #[.slice none 0 0, .int .i64 er])) w := ⟨none, 0, 0, rfl, ⟨[], RowsIn.nothing _ _ _, Nat.le_refl _, rfl⟩, Or.inl rfl, by omega, Keep.refl w⟩
theorem LaidAt.rows {w : World} {base gr b c G S P : Nat} {ys : List Nat} (h : LaidAt w base gr b c G S P ys) (hP : G * S = P) : RowsIn w (fun x => base ≤ x ∧ x < w.heap.size) (some ⟨gr, 0, none⟩) G (rsL b S ys G) := by
  refine RowsIn.of_own h.1 (fun r hr => ?_) fun x hx => ⟨h.1.rowLe x hx, (h.1.lt x hx).2⟩
  obtain ⟨i, hi, rfl⟩ := List.mem_map.1 hr
  have hi := List.mem_range.1 hi
  have hle : (i + 1) * S ≤ G * S := Nat.mul_le_mul_right S hi
  rw [Nat.add_mul, Nat.one_mul] at hle
  have hyl : ys.length = P := h.2.length
  refine ⟨?_, fun x hx => h.2.2 x (List.mem_of_mem_drop (List.mem_of_mem_take hx)), Nat.le_refl _, fun hp => ⟨b, i * S, rfl, ?_, fun j hj => ?_⟩⟩
  · show (cutN S i ys).length = S
    rw [cutN, List.length_take, List.length_drop]; omega
  · have hp : 0 < S := hp
    obtain ⟨b2, e, e2, e3⟩ := h.2.block (by omega)
    injection e with e; injection e with e
    subst e
    exact ⟨e2, e3⟩
  · have hj : j < S := hj
    rw [h.2.cell (i := i * S + j) (by omega)]
    show _ = some (Value.int .u8 (((cutN S i ys).getD j 0 : Nat) : Int))
    rw [cutN, List.getD_eq_getElem?_getD, List.getD_eq_getElem?_getD, List.getElem?_take, if_pos hj, List.getElem?_drop]
theorem LaidAt.turn {w : World} {base gr b c G S P : Nat} {ys : List Nat} (h : LaidAt w base gr b c G S P ys) (hP : G * S = P) (hS : 1 ≤ S) (hG : 1 ≤ G) : TurnAt w base (some ⟨gr, 0, none⟩) G := by
  have h1 := h.1.rowLe gr rfl
  have h2 := h.2.rowLe b rfl
  refine Or.inr ⟨gr, b, S, c, P, ys, rfl, h1, (h.1.lt gr rfl).2, h2, ?_, hS, fun k hk => ?_, fun k hk => ?_, h.2⟩
  · rcases blocks_apart h.2 h.1 (by decide) with e | e
    · cases e
    · exact fun e2 => e (by show some b = some gr; rw [e2])
  · have hle : (k + 1) * S ≤ G * S := Nat.mul_le_mul_right S hk
    rw [Nat.add_mul, Nat.one_mul] at hle
    omega
  · have := World.ownsRow.cellAt h.1 k (by omega)
    rw [this, List.getElem?_map, rsL_get hk]; rfl
theorem play_any (g s : Int) (A : Option Addr) (n c : Nat) (xs : List Nat) (w : World) (h : Bytes w w.heap.size A n xs) : Calls Tryz.prog 139 #[.slice A n c, .int .i64 g, .int .i64 s] w (NewLay w (layR g s xs) (layE g s xs)) := by
  have hl := h.length
  by_cases hm : MayG g s
  · obtain ⟨G, S, P, rfl, rfl, a1, a2, a3, a4, a5, a6, a7, a8⟩ := hm.nat
    by_cases h0 : xs.length = 0
    · have e : layE (G : Int) (S : Int) xs = 4 := by rw [layE, if_neg (not_not_intro hm), if_pos h0]
      rw [layR, e, if_neg (by decide)]
      obtain rfl : n = 0 := by omega
      exact (play_none G S P a1 a2 a3 a4 a8 a6 a7 A c w).mono fun e w' he => by rw [he.1, ← he.2]; exact NewLay.nil w 4
    · by_cases h1 : P < n + 4
      · have e : layE (G : Int) (S : Int) xs = 3 := by rw [layE, if_neg (not_not_intro hm), if_neg h0, if_pos (by rw [a8]; omega)]
        rw [layR, e, if_neg (by decide)]
        exact (play_long G S P n a1 a2 a3 a4 a8 a6 a7 h1 A c w).mono fun e w' he => by rw [he.1, ← he.2]; exact NewLay.nil w 3
      · have e : layE (G : Int) (S : Int) xs = 0 := by rw [layE, if_neg (not_not_intro hm), if_neg h0, if_neg (by rw [a8]; omega)]
        rw [layR, e, if_pos rfl]
        refine (play_in G S P n a1 a2 a3 a4 a8 a6 a7 (by omega) (by omega) A c xs w h).mono fun e w' he => ?_
        obtain ⟨gr, b, cc, rfl, hL, hk⟩ := he
        exact ⟨_, G, G, rfl, ⟨_, hL.rows a5, Nat.le_refl _, by rw [rsL_xs, layN, Int.toNat_natCast, Int.toNat_natCast, a5]⟩, hL.turn a5 a3 a1, a2, hk⟩
  · have e : layE g s xs = 1 := by rw [layE, if_pos hm]
    rw [layR, e, if_neg (by decide)]
    exact (play_out g s hm A n c w).mono fun e w' he => by rw [he.1, ← he.2]; exact NewLay.nil w 1
def tkE (g s : Int) (R : List (List Nat)) : Int := if ¬ MayG g s then 1 else takeE g.toNat s.toNat R
def tkV (g s : Int) (R : List (List Nat)) : List Nat := if ¬ MayG g s then [] else takeV g.toNat s.toNat R
theorem take_dim {G S : Nat} {R : List (List Nat)} (h : R.length ≠ G) : takeE G S R = 21 ∧ takeV G S R = [] := by
  have e : takeE G S R = 21 := by rw [takeE, if_pos fun hk => h hk.1]
  exact ⟨e, by rw [takeV, e, if_neg (by decide)]⟩
theorem ptake_any (g s : Int) (A : Option Addr) (n c : Nat) (rs : List RowV) (w : World) (h : RowsAt w w.heap.size A n rs) : Calls Tryz.prog 72 #[.slice A n c, .int .i64 g, .int .i64 s] w (NewPair w (tkV g s (rowsOf rs)) (tkE g s (rowsOf rs))) := by
  by_cases hm : MayG g s
  · rw [tkE, tkV, if_neg (not_not_intro hm), if_neg (not_not_intro hm)]
    obtain ⟨G, S, P, rfl, rfl, a1, a2, a3, a4, a5, a6, a7, a8⟩ := hm.nat
    rw [Int.toNat_natCast, Int.toNat_natCast]
    by_cases hn : n = G
    · subst hn; exact ptake_in n S P a1 a2 a3 a4 a8 a6 a7 A c rs w h
    · have := take_dim (G := G) (S := S) (R := rowsOf rs) (by rw [rowsOf, List.length_map, h.1]; exact hn)
      rw [this.1, this.2]
      exact ptake_dim G S P n a1 a2 a3 a4 a8 a6 a7 hn A c w
  · rw [tkE, tkV, if_pos hm, if_pos hm]
    exact ptake_out g s hm A n c w
/-- What Chunks tells, of a stream and its cuts. -/
def ToldC (g s : Int) (n : Nat) (xs : List Nat) (l : List Int) (M : List (List Nat)) (O : List Nat) (er : Int) : Prop :=
  ((¬ MayG g s ∨ ¬ GoodC n l l.length) ∧ M = [] ∧ O = [] ∧ er = 1) ∨
  (∃ (G S P : Nat) (cs : List Nat), g = G ∧ s = S ∧ 5 ≤ P ∧ P ≤ 16711425 ∧ g * s = (P : Int) ∧ MayG g s ∧ l = cs.map (fun x : Nat => (x : Int)) ∧ (∀ x ∈ cs, x ≤ n) ∧ (∀ (i j x y : Nat), i ≤ j → cs[i]? = some x → cs[j]? = some y → x ≤ y) ∧ M = (chunkN (P - 4) cs xs (n + 1)).1 ∧ O = xs.drop (chunkN (P - 4) cs xs (n + 1)).2 ∧ er = 0)
theorem ToldC.len {g s : Int} {n : Nat} {xs : List Nat} {l : List Int} {M : List (List Nat)} {O : List Nat} {er : Int} (h : ToldC g s n xs l M O er) : M.length ≤ n + 1 := by
  rcases h with ⟨_, rfl, _, _⟩ | ⟨G, S, P, cs, _, _, _, _, _, _, _, _, _, rfl, _, _⟩
  · simp
  · exact chunk_count _
theorem Laying.count {W w : World} {A : Option Addr} {n c : Nat} {rs : List RowV} {M : List (List Nat)} (h : Laying W w A n c rs) (hx : rowsXs rs = M) : n = M.length := by
  rw [← hx, rowsXs, List.length_map]; exact h.1.length.symm
end Go.Proofs.YtgelalbmhllccaaGreat
/- The landed sink: how it lies, its small calls, its iterator. -/
namespace Go.Proofs.YtgelalbmhllccaaGreat
open Go.RowKit Lin
set_option linter.unusedVariables false
set_option linter.unusedSimpArgs false
attribute [local go_sem] Oper.semAt_some
/-- It lies at q. -/
structure SnkR (w : World) (q : Nat) (g s : Int) (got of : Nat) (kn br : Bool) : Prop where
  block : w.heap[q]? = some (.cells #[.int .i64 g, .int .i64 s, .int .u64 (got : Int), .int .u64 (of : Int), .bool kn, .bool br] 78 (0, 0))
  may : MayG g s
  top : got ≤ topN
namespace SnkR
variable {w w' : World} {q got of : Nat} {g s : Int} {kn br : Bool} {G : Nat → Prop}
theorem lt (h : SnkR w q g s got of kn br) : q < w.heap.size := (Array.getElem?_eq_some_iff.1 h.block).1
theorem turned (h : SnkR w q g s got of kn br) (t : Turned G w w') (hn : ¬ G q) : SnkR w' q g s got of kn br := ⟨(t.block q h.lt hn).trans h.block, h.may, h.top⟩
theorem keep (h : SnkR w q g s got of kn br) (k : Keep w w') : SnkR w' q g s got of kn br := ⟨(k.block q h.lt).trans h.block, h.may, h.top⟩
theorem c0 (h : SnkR w q g s got of kn br) : w.cell? ⟨q, 0, none⟩ = some (.int .i64 g) := cell_of_row _ _ _ _ _ _ h.block
theorem c1 (h : SnkR w q g s got of kn br) : w.cell? ⟨q, 1, none⟩ = some (.int .i64 s) := cell_of_row _ _ _ _ _ _ h.block
theorem c2 (h : SnkR w q g s got of kn br) : w.cell? ⟨q, 2, none⟩ = some (.int .u64 (got : Int)) := cell_of_row _ _ _ _ _ _ h.block
theorem c3 (h : SnkR w q g s got of kn br) : w.cell? ⟨q, 3, none⟩ = some (.int .u64 (of : Int)) := cell_of_row _ _ _ _ _ _ h.block
theorem c4 (h : SnkR w q g s got of kn br) : w.cell? ⟨q, 4, none⟩ = some (.bool kn) := cell_of_row _ _ _ _ _ _ h.block
theorem c5 (h : SnkR w q g s got of kn br) : w.cell? ⟨q, 5, none⟩ = some (.bool br) := cell_of_row _ _ _ _ _ _ h.block
theorem free (h : SnkR w q g s got of kn br) (i : Nat) : w.frozen? ⟨q, i, none⟩ = false := by simp [World.frozen?, h.block]
theorem setGot (h : SnkR w q g s got of kn br) {n : Nat} (hn : n ≤ topN) : SnkR (w.setCell ⟨q, 2, none⟩ (.int .u64 (n : Int))) q g s n of kn br := ⟨by rw [bset h.block]; rfl, h.may, hn⟩
theorem setOf (h : SnkR w q g s got of kn br) (n : Nat) : SnkR (w.setCell ⟨q, 3, none⟩ (.int .u64 (n : Int))) q g s got n kn br := ⟨by rw [bset h.block]; rfl, h.may, h.top⟩
theorem setKn (h : SnkR w q g s got of kn br) (b : Bool) : SnkR (w.setCell ⟨q, 4, none⟩ (.bool b)) q g s got of b br := ⟨by rw [bset h.block]; rfl, h.may, h.top⟩
theorem setBr (h : SnkR w q g s got of kn br) (b : Bool) : SnkR (w.setCell ⟨q, 5, none⟩ (.bool b)) q g s got of kn b := ⟨by rw [bset h.block]; rfl, h.may, h.top⟩
end SnkR
/-- What is handed on: of generation n the chunk, or an error. -/
structure ChV where
  n : Nat
  A : Option Addr
  r : Nat
  c : Nat
  xs : List Nat
  e : Int
section
variable {F : Nat → Prop} {p q g s k b of : Nat} {L : Nat → List (List Nat)} {kn : Bool}
/-- Both, and the boxes of what the closure has captured. -/
structure SnkB (W : World) (F : Nat → Prop) (p q g s k b of : Nat) (L : Nat → List (List Nat)) (kn : Bool) (Bk Bb n : Nat) : Prop where
  sk : SnkR W q (g : Int) (s : Int) n of kn false
  y : RelR W F p g s k b L
  bk : Boxed W Bk 27 (.pointer (some ⟨q, 0, none⟩))
  bb : Boxed W Bb 34 (.pointer (some ⟨p, 0, none⟩))
theorem KeepsFrom.of_keep {B : Nat} {W W' : World} (t : Keep W W') : KeepsFrom B W W' := ⟨t.size, fun i o _ h _ => (t.block i (Array.getElem?_eq_some_iff.1 h).1).trans h⟩
theorem SnkB.keep {W W' : World} {Bk Bb n : Nat} (h : SnkB W F p q g s k b of L kn Bk Bb n) (t : Keep W W') : SnkB W' F p q g s k b of L kn Bk Bb n :=
  ⟨h.sk.keep t, h.y.keep t, (t.block Bk (Array.getElem?_eq_some_iff.1 h.bk).1).trans h.bk, (t.block Bb (Array.getElem?_eq_some_iff.1 h.bb).1).trans h.bb⟩
/-- Take of what was solved. -/
theorem take_solved {w w5 : World} {A4 : Option Addr} {n4 c4 n : Nat} {rt : List RowV} (hMG : MayG (g : Int) (s : Int)) (hl : ∀ x ∈ L n, x.length = g + s) (o4 : OwnRows w5 w.heap.size 43 A4 n4 c4 rt) (l4 : ∀ x ∈ rt, Own w5 w.heap.size 5 x.A x.n x.c x.xs) (ex : rowsXs rt = symN g (L n)) (w6 : World) (k6 : Keep w5 w6) :
    Calls Tryz.prog 72 #[.slice A4 n4 c4, .int .i64 (g : Int), .int .i64 (s : Int)] w6 (NewPair w6 (takeV g s (symN g (L n))) (takeE g s (symN g (L n)))) := by
  have hlen : ∀ r ∈ rt, r.n ≤ 140737488351232 := fun r hr => by
    have h1 : r.xs ∈ symN g (L n) := by rw [← ex]; exact List.mem_map.2 ⟨r, hr, rfl⟩
    obtain ⟨x, hx, e⟩ := List.mem_map.1 h1
    have h2 := (l4 r hr).lies.1
    simp only at h2
    rw [← e, List.length_drop, hl x hx] at h2
    have := hMG.2.2.2.1
    omega
  have hra := RowsIn.of_own (F := fun x => x < w5.heap.size) o4 (fun r hr => (l4 r hr).lies.mono fun x e => ((l4 r hr).1.lt x e).2) fun x e => (o4.lt x e).2
  have h := ptake_any (g : Int) (s : Int) A4 n4 c4 rt w6 ((hra.turned (Turned.of_keep (F := fun _ => False) k6) fun _ _ e => e).rowsAt (B := w6.heap.size) (fun x e => Nat.lt_of_lt_of_le e k6.size) hlen)
  have e1 : tkE (g : Int) (s : Int) (rowsOf rt) = takeE g s (symN g (L n)) := by rw [tkE, if_neg (not_not_intro hMG), ← ex]; rfl
  have e2 : tkV (g : Int) (s : Int) (rowsOf rt) = takeV g s (symN g (L n)) := by rw [tkV, if_neg (not_not_intro hMG), ← ex]; rfl
  rw [e1, e2] at h
  exact h
end
end Go.Proofs.YtgelalbmhllccaaGreat
/- The landed sink: what its Release keeps on the way, and what it tells. -/
namespace Go.Proofs.YtgelalbmhllccaaGreat
open Go.RowKit Lin
set_option linter.unusedVariables false
set_option linter.unusedSimpArgs false
theorem ownblock_cells {w : World} {base size n x : Nat} {e : TypeId} {v : Value} {xs : List Value} (h : w.ownsRow base e size v n xs) (hx : v.ownBlock = some x) : base ≤ x ∧ ∃ cur, w.heap[x]? = some (.cells cur e (0, 0)) := by
  rcases h.2 with ⟨rfl, _⟩ | ⟨g, cap, cur, rfl, hb, hg, _⟩
  · simp [Value.ownBlock] at hx
  · simp only [Value.ownBlock, Option.some.injEq] at hx
    subst hx
    exact ⟨hb, cur, hg⟩
theorem turned_putObj (W : World) (k : Nat) (o : Obj) : Turned (fun a => a = k) W (W.putObj k o) := ⟨rfl, rfl, rfl, by simp, fun i hi hn => World.putObj_heap_other hn⟩
theorem ne_of_cells {W : World} {k x : Nat} {o : Obj} {cs : Array Value} {t : TypeId} {fr : Nat × Nat} (hb : W.heap[k]? = some o) (hc : o.isCells = false) (hx : W.heap[x]? = some (.cells cs t fr)) : x ≠ k := fun e => by
  subst e
  rw [hb] at hx
  injection hx with hx
  subst hx
  simp [Obj.isCells] at hc
theorem boxed_later {W W' : World} {B : Nat} {t : TypeId} {u : Value} {G : Nat → Prop} (h : Boxed W B t u) (k : Turned G W W') (hn : ¬ G B) : Boxed W' B t u := (k.block B (Array.getElem?_eq_some_iff.1 h).1 hn).trans h
theorem boxed_put {W : World} {B : Nat} {t : TypeId} {u : Value} (h : Boxed W B t u) (v : Value) : Boxed (W.setCell ⟨B, 0, none⟩ v) B t v := by
  unfold Boxed; rw [bset h]; rfl
theorem keepsFrom_turned {W W' : World} {G : Nat → Prop} (t : Turned G W W') (B : Nat) (hG : ∀ a, G a → ∃ cs t fr, W.heap[a]? = some (.cells cs t fr)) : KeepsFrom B W W' :=
  ⟨t.size, fun i o _ h hc => (t.block i (Array.getElem?_eq_some_iff.1 h).1 fun hg => by
    obtain ⟨cs, ty, fr, e⟩ := hG i hg
    rw [h] at e
    injection e with e
    subst e
    simp [Obj.isCells] at hc).trans h⟩
/-- A row appended, inside a fence. -/
theorem wpListIn_append_row {Fe : Fence} {nF : Nat} {P : Program} {w : World} {ops : Array Oper} {rest : List Oper} {o : Oper} {a : Act} {Q : Exit → Act → World → Prop} (hgd : o.guard = none) (s x : Operand) (t : TypeId)
    (ho : o.op = .call { callee := .builtin .append, args := #[s, x], argTypes := #[t, t] }) {base n c cx e : Nat} {A : Option Addr} {rs : List RowV} {ad : Addr} (r : RowV) (ht : P.underlying t = some (.slice e))
    (hi : (P.info? e).map (fun i => (i.zero, i.size, i.bytes)) = some (some (.slice none 0 0), 1, 24)) (hs : a.eval s = .slice A n c) (hown : OwnRows w base e A n c rs) (hx0 : a.eval x = .slice (some ad) 1 cx) (hx : w.cell? ad = some r.val) (hlen : n ≤ 1000000) (hbase : base ≤ w.heap.size)
    (h : ∀ A2 c2 w', OwnRows w' base e A2 (n + 1) c2 (rs ++ [r]) → w.grownBy w' (Value.slice A n c).ownBlock → wpListIn Fe nF P ops Q rest (a.put o.dst (.slice A2 (n + 1) c2)) w') : wpListIn Fe nF P ops Q (o :: rest) a w := by
  obtain ⟨i0, hi0, hz0, hz1, hz2⟩ := info_parts hi
  refine wpListIn_append_own w hgd s x t ho base e i0 (.slice none 0 0) 1 24 ht hi0 hz0 hz1 hz2 rfl (by decide) _ n (rs.map RowV.val) hs hown ad 1 cx [r.val] hx0 rfl (fun j u hu => ?_) (fun u hu => by simp at hu; subst hu; rfl) (by unfold maxLen; omega) (by omega) hbase fun v' w' h2 h3 _ => ?_
  · match j, hu with
    | 0, hu =>
      simp at hu
      subst hu
      have ha : ad.add 0 = ad := by unfold Addr.add; split <;> simp_all
      rw [ha]; exact hx
  · obtain ⟨g', cap', rfl⟩ := ownsRow_succ h2
    exact h _ _ w' (by rw [OwnRows, List.map_append]; exact h2) h3
/-- On the way: the chunks so far, the sink, the relay and the boxes. -/
structure LI (w W : World) (F : Nat → Prop) (p q g s k b : Nat) (L : Nat → List (List Nat)) (got of : Nat) (kn : Bool) (A : Option Addr) (n c : Nat) (rs : List RowV) (got' : Nat) : Prop where
  sk : SnkR W q (g : Int) (s : Int) got' of kn false
  y : RelR W F p g s k b L
  fl : ∀ a, F a → a < w.heap.size
  nq : ¬ F q
  ql : q < w.heap.size
  rel : RelI g s k b L got (rowsXs rs) got'
  own : OwnRows W (w.heap.size + 6) 43 A n c rs
  rows : ∀ r ∈ rs, Own W (w.heap.size + 6) 5 r.A r.n r.c r.xs
  t : Turned (fun a => a = q) w W
  b0 : Boxed W w.heap.size 27 (.pointer (some ⟨q, 0, none⟩))
  b1 : Boxed W (w.heap.size + 1) 40 (.slice none 0 0)
  b2 : Boxed W (w.heap.size + 2) 28 (.int .i64 0)
  b3 : Boxed W (w.heap.size + 3) 40 (.slice A n c)
  bk : Boxed W (w.heap.size + 4) 27 (.pointer (some ⟨q, 0, none⟩))
  bb : Boxed W (w.heap.size + 5) 34 (.pointer (some ⟨p, 0, none⟩))
  sz : w.heap.size + 6 ≤ W.heap.size
/-- At the end: what is told stands in the results' boxes. -/
structure LT (w W : World) (F : Nat → Prop) (p q g s k b : Nat) (L : Nat → List (List Nat)) (got of : Nat) (kn : Bool) (A : Option Addr) (n c : Nat) (rs : List RowV) (got' : Nat) (br : Bool) : Prop where
  sk : SnkR W q (g : Int) (s : Int) got' of kn br
  y : RelR W F p g s k b L
  fl : ∀ a, F a → a < w.heap.size
  ql : q < w.heap.size
  rel : RelT g s k b L got (rowsXs rs) got' br
  own : OwnRows W (w.heap.size + 6) 43 A n c rs
  rows : ∀ r ∈ rs, Own W (w.heap.size + 6) 5 r.A r.n r.c r.xs
  t : Turned (fun a => a = q) w W
  b1 : Boxed W (w.heap.size + 1) 40 (.slice A n c)
  b2 : Boxed W (w.heap.size + 2) 28 (.int .i64 (if br then 5 else 0))
namespace LI
variable {w W W' : World} {F G : Nat → Prop} {p q g s k b got of n c got' : Nat} {L : Nat → List (List Nat)} {kn : Bool} {A : Option Addr} {rs : List RowV}
/-- What turns lies elsewhere. -/
theorem turned (h : LI w W F p q g s k b L got of kn A n c rs got') (t : Turned G W W') (h0 : ∀ a, a < w.heap.size + 6 → ¬ G a) (h1 : ∀ x, (Value.slice A n c).ownBlock = some x → ¬ G x) (h2 : ∀ r ∈ rs, ∀ x, (Value.slice r.A r.n r.c).ownBlock = some x → ¬ G x) : LI w W' F p q g s k b L got of kn A n c rs got' :=
  have hq := h.ql
  ⟨h.sk.turned t (h0 q (by omega)), h.y.turned t fun a ha => h0 a (by have := h.fl a ha; omega), h.fl, h.nq, h.ql, h.rel, OwnRows.turned h.own t h1, fun r hr => (h.rows r hr).turned t (h2 r hr), h.t.trans t fun j e => Or.inr (by rcases Nat.lt_or_ge j (w.heap.size + 6) with e2 | e2; exact absurd e (h0 j e2); omega),
    boxed_later h.b0 t (h0 _ (by omega)), boxed_later h.b1 t (h0 _ (by omega)), boxed_later h.b2 t (h0 _ (by omega)), boxed_later h.b3 t (h0 _ (by omega)), boxed_later h.bk t (h0 _ (by omega)), boxed_later h.bb t (h0 _ (by omega)), Nat.le_trans h.sz t.size⟩
theorem keep (h : LI w W F p q g s k b L got of kn A n c rs got') (t : Keep W W') : LI w W' F p q g s k b L got of kn A n c rs got' :=
  h.turned (Turned.of_keep (F := fun _ => False) t) (fun _ _ e => e) (fun _ _ e => e) fun _ _ _ _ e => e
theorem abide {m : Nat} {o o' : Obj} (h : LI w W F p q g s k b L got of kn A n c rs got') (hm : w.heap.size + 6 ≤ m) (hb : W.heap[m]? = some o) (hc : o.isCells = false) : LI w (W.putObj m o') F p q g s k b L got of kn A n c rs got' :=
  h.turned (turned_putObj W m o') (fun a ha e => by omega) (fun x e => by
    obtain ⟨-, cur, h2⟩ := ownblock_cells h.own e
    exact ne_of_cells hb hc h2) fun r hr x e => by
    obtain ⟨-, cur, h2⟩ := ownblock_cells (h.rows r hr).1 e
    exact ne_of_cells hb hc h2
theorem box (h : LI w W F p q g s k b L got of kn A n c rs got') : SnkB W F p q g s k b of L kn (w.heap.size + 4) (w.heap.size + 5) got' := ⟨h.sk, h.y, h.bk, h.bb⟩
/-- A chunk more. -/
theorem more {A2 : Option Addr} {c2 : Nat} {r : RowV} {w9 : World} (h : LI w W F p q g s k b L got of kn A n c rs got') (h1 : rdyN g k b L got') (h2 : takeE g s (symN g (L got')) = 0) (hx : r.xs = takeV g s (symN g (L got'))) (hr : Own W (w.heap.size + 6) 5 r.A r.n r.c r.xs)
    (ho : OwnRows w9 (w.heap.size + 6) 43 A2 (n + 1) c2 (rs ++ [r])) (kb : Turned (fun a => (Value.slice A n c).ownBlock = some a) W w9) :
    LI w ((w9.setCell ⟨w.heap.size + 3, 0, none⟩ (.slice A2 (n + 1) c2)).setCell ⟨q, 2, none⟩ (.int .u64 ((got' + 1 : Nat) : Int))) F p q g s k b L got of kn A2 (n + 1) c2 (rs ++ [r]) (got' + 1) := by
  have hq := h.ql
  have hsz := h.sz
  have X0 : ∀ x, (Value.slice A n c).ownBlock = some x → w.heap.size + 6 ≤ x := fun x e => (ownblock_cells h.own e).1
  have t1 : Turned (fun a => a = w.heap.size + 3) w9 (w9.setCell ⟨w.heap.size + 3, 0, none⟩ (.slice A2 (n + 1) c2)) := Turned.set (F := fun a => a = w.heap.size + 3) w9 ⟨w.heap.size + 3, 0, none⟩ _ rfl
  obtain ⟨wa, hwa⟩ : ∃ v, w9.setCell ⟨w.heap.size + 3, 0, none⟩ (.slice A2 (n + 1) c2) = v := ⟨_, rfl⟩
  have b3 : Boxed wa (w.heap.size + 3) 40 (.slice A2 (n + 1) c2) := by rw [← hwa]; exact boxed_put (boxed_later h.b3 kb fun e => by have := X0 _ e; omega) _
  rw [hwa] at t1 ⊢
  have t2 : Turned (fun a => a = q) wa (wa.setCell ⟨q, 2, none⟩ (.int .u64 ((got' + 1 : Nat) : Int))) := Turned.set (F := fun a => a = q) wa ⟨q, 2, none⟩ _ rfl
  have hrow : ∀ r' ∈ rs ++ [r], Own W (w.heap.size + 6) 5 r'.A r'.n r'.c r'.xs := fun r' hr' => by
    rcases List.mem_append.1 hr' with e | e
    · exact h.rows r' e
    · obtain rfl : r' = r := by simpa using e
      exact hr
  have K : Turned (fun a => (Value.slice A n c).ownBlock = some a ∨ a = w.heap.size + 3) W wa := (kb.mono fun i _ e => Or.inl e).trans (t1.mono fun i _ e => Or.inr e) fun i e => Or.inl e
  have bx : ∀ B t u, B < w.heap.size + 6 → B ≠ w.heap.size + 3 → B ≠ q → Boxed W B t u → Boxed (wa.setCell ⟨q, 2, none⟩ (.int .u64 ((got' + 1 : Nat) : Int))) B t u := fun B t u hB h3 hq hb =>
    boxed_later (boxed_later hb K (fun e => by rcases e with e | e; (have := X0 _ e; omega); exact h3 e)) t2 hq
  refine ⟨(h.sk.turned K fun e => ?_).setGot (by have := rdy_top h1; omega), (h.y.turned K fun a ha e => ?_).turned t2 fun a ha e => h.nq (e ▸ ha), h.fl, h.nq, h.ql, ?_, OwnRows.turned (OwnRows.turned ho t1 fun x e e2 => ?_) t2 fun x e e2 => ?_, fun r' hr' => ((hrow r' hr').turned K fun x e e2 => ?_).turned t2 fun x e e2 => ?_, ?_, bx _ _ _ (by omega) (by omega) (by omega) h.b0, bx _ _ _ (by omega) (by omega) (by omega) h.b1, bx _ _ _ (by omega) (by omega) (by omega) h.b2, boxed_later b3 t2 (by show ¬ (w.heap.size + 3 = q); omega), bx _ _ _ (by omega) (by omega) (by omega) h.bk, bx _ _ _ (by omega) (by omega) (by omega) h.bb, Nat.le_trans hsz (Nat.le_trans K.size t2.size)⟩
  · rcases e with e | e
    · have := X0 _ e; omega
    · omega
  · have := h.fl a ha
    rcases e with e | e
    · have := X0 _ e; omega
    · omega
  · have h3 := h.rel.more h1 h2
    rw [← hx] at h3
    have e : rowsXs (rs ++ [r]) = rowsXs rs ++ [r.xs] := by simp [rowsXs]
    rw [e]; exact h3
  · have := (ownblock_cells ho e).1; omega
  · have := (ownblock_cells ho e).1; omega
  · obtain ⟨h3, cur, h4⟩ := ownblock_cells (hrow r' hr').1 e
    rcases e2 with e2 | e2
    · obtain ⟨-, cur2, h5⟩ := ownblock_cells h.own e2
      rw [h4] at h5
      simp at h5
    · omega
  · have := (ownblock_cells (hrow r' hr').1 e).1; omega
  · refine (h.t.trans K fun j e => Or.inr ?_).trans t2 fun j e => Or.inl e
    rcases e with e | e
    · have := X0 _ e; omega
    · omega
/-- What the walk reads and writes behind an append. -/
theorem cells {w9 : World} (h : LI w W F p q g s k b L got of kn A n c rs got') (kb : Turned (fun a => (Value.slice A n c).ownBlock = some a) W w9) :
    w9.frozen? ⟨w.heap.size + 3, 0, none⟩ = false ∧ w9.cell? ⟨w.heap.size, 0, none⟩ = some (.pointer (some ⟨q, 0, none⟩)) ∧ w9.cell? ⟨q, 2, none⟩ = some (.int .u64 (got' : Int)) ∧ w9.frozen? ⟨q, 2, none⟩ = false ∧ ¬ q = w.heap.size + 3 ∧ ¬ w.heap.size + 3 = q ∧ w9.cell? ⟨w.heap.size + 3, 0, none⟩ = some (.slice A n c) := by
  have hq := h.ql
  have X0 : ∀ x, (Value.slice A n c).ownBlock = some x → w.heap.size + 6 ≤ x := fun x e => (ownblock_cells h.own e).1
  have s1 := h.sk.turned kb fun e => by have := X0 _ e; omega
  exact ⟨(boxed_later h.b3 kb fun e => by have := X0 _ e; omega).frozen, (boxed_later h.b0 kb fun e => by have := X0 _ e; omega).cell, s1.c2, s1.free 2, by omega, by omega, (boxed_later h.b3 kb fun e => by have := X0 _ e; omega).cell⟩
/-- What the round has turned are cells. -/
theorem kf {w9 : World} (h : LI w W F p q g s k b L got of kn A n c rs got') (kb : Turned (fun a => (Value.slice A n c).ownBlock = some a) W w9) (v u : Value) (B : Nat) : KeepsFrom B W ((w9.setCell ⟨w.heap.size + 3, 0, none⟩ v).setCell ⟨q, 2, none⟩ u) := by
  have t1 : Turned (fun a => a = w.heap.size + 3) w9 (w9.setCell ⟨w.heap.size + 3, 0, none⟩ v) := Turned.set (F := fun a => a = w.heap.size + 3) w9 ⟨w.heap.size + 3, 0, none⟩ _ rfl
  have t2 : Turned (fun a => a = q) (w9.setCell ⟨w.heap.size + 3, 0, none⟩ v) ((w9.setCell ⟨w.heap.size + 3, 0, none⟩ v).setCell ⟨q, 2, none⟩ u) := Turned.set (F := fun a => a = q) _ ⟨q, 2, none⟩ _ rfl
  have K : Turned (fun a => (Value.slice A n c).ownBlock = some a ∨ a = w.heap.size + 3 ∨ a = q) W ((w9.setCell ⟨w.heap.size + 3, 0, none⟩ v).setCell ⟨q, 2, none⟩ u) := ((kb.mono fun i _ e => Or.inl e).trans (t1.mono fun i _ e => Or.inr (Or.inl e)) fun i e => Or.inl e).trans (t2.mono fun i _ e => Or.inr (Or.inr e)) fun i e => Or.inl e
  refine keepsFrom_turned K B fun a e => ?_
  rcases e with e | e | e
  · obtain ⟨-, cur, h2⟩ := ownblock_cells h.own e
    exact ⟨_, _, _, h2⟩
  · subst e; exact ⟨_, _, _, h.b3⟩
  · subst e; exact ⟨_, _, _, h.sk.block⟩
theorem kfb (h : LI w W F p q g s k b L got of kn A n c rs got') (u v x : Value) (B : Nat) : KeepsFrom B W (((W.setCell ⟨q, 5, none⟩ u).setCell ⟨w.heap.size + 1, 0, none⟩ v).setCell ⟨w.heap.size + 2, 0, none⟩ x) := by
  have t0 : Turned (fun a => a = q) W (W.setCell ⟨q, 5, none⟩ u) := Turned.set (F := fun a => a = q) W ⟨q, 5, none⟩ _ rfl
  have t1 : Turned (fun a => a = w.heap.size + 1) (W.setCell ⟨q, 5, none⟩ u) ((W.setCell ⟨q, 5, none⟩ u).setCell ⟨w.heap.size + 1, 0, none⟩ v) := Turned.set (F := fun a => a = w.heap.size + 1) _ ⟨w.heap.size + 1, 0, none⟩ _ rfl
  have t2 : Turned (fun a => a = w.heap.size + 2) ((W.setCell ⟨q, 5, none⟩ u).setCell ⟨w.heap.size + 1, 0, none⟩ v) (((W.setCell ⟨q, 5, none⟩ u).setCell ⟨w.heap.size + 1, 0, none⟩ v).setCell ⟨w.heap.size + 2, 0, none⟩ x) := Turned.set (F := fun a => a = w.heap.size + 2) _ ⟨w.heap.size + 2, 0, none⟩ _ rfl
  have K : Turned (fun a => a = q ∨ a = w.heap.size + 1 ∨ a = w.heap.size + 2) W (((W.setCell ⟨q, 5, none⟩ u).setCell ⟨w.heap.size + 1, 0, none⟩ v).setCell ⟨w.heap.size + 2, 0, none⟩ x) := ((t0.mono fun i _ e => Or.inl e).trans (t1.mono fun i _ e => Or.inr (Or.inl e)) fun i e => Or.inl e).trans (t2.mono fun i _ e => Or.inr (Or.inr e)) fun i e => Or.inl e
  refine keepsFrom_turned K B fun a e => ?_
  rcases e with e | e | e
  · subst e; exact ⟨_, _, _, h.sk.block⟩
  · subst e; exact ⟨_, _, _, h.b1⟩
  · subst e; exact ⟨_, _, _, h.b2⟩
theorem few (h : LI w W F p q g s k b L got of kn A n c rs got') : n ≤ 16 := by
  have h1 := h.rel.few
  have h2 := h.own.length
  have h3 := h.y.fine
  rw [rowsXs, List.length_map] at h1
  omega
/-- It ends: the results are stored. -/
theorem told (h : LI w W F p q g s k b L got of kn A n c rs got') (hr : ¬ rdyN g k b L got') :
    LT w ((W.setCell ⟨w.heap.size + 1, 0, none⟩ (.slice A n c)).setCell ⟨w.heap.size + 2, 0, none⟩ (.int .i64 0)) F p q g s k b L got of kn A n c rs got' false := by
  have hq := h.ql
  have hsz := h.sz
  have t1 : Turned (fun a => a = w.heap.size + 1) W (W.setCell ⟨w.heap.size + 1, 0, none⟩ (.slice A n c)) := Turned.set (F := fun a => a = w.heap.size + 1) W ⟨w.heap.size + 1, 0, none⟩ _ rfl
  have b1 := boxed_put h.b1 (.slice A n c)
  have b2 := boxed_later h.b2 t1 (by show ¬ (w.heap.size + 2 = w.heap.size + 1); omega)
  obtain ⟨wa, hwa⟩ : ∃ v, W.setCell ⟨w.heap.size + 1, 0, none⟩ (.slice A n c) = v := ⟨_, rfl⟩
  rw [hwa] at t1 b1 b2 ⊢
  have t2 : Turned (fun a => a = w.heap.size + 2) wa (wa.setCell ⟨w.heap.size + 2, 0, none⟩ (.int .i64 0)) := Turned.set (F := fun a => a = w.heap.size + 2) wa ⟨w.heap.size + 2, 0, none⟩ _ rfl
  have K : Turned (fun a => a = w.heap.size + 1 ∨ a = w.heap.size + 2) W (wa.setCell ⟨w.heap.size + 2, 0, none⟩ (.int .i64 0)) := (t1.mono fun i _ e => Or.inl e).trans (t2.mono fun i _ e => Or.inr e) fun i e => Or.inl e
  exact ⟨h.sk.turned K (by omega), h.y.turned K fun a ha e => by have := h.fl a ha; omega, h.fl, h.ql, h.rel.done hr, OwnRows.turned h.own K fun x e e2 => by have := (ownblock_cells h.own e).1; omega, fun r hr => (h.rows r hr).turned K fun x e e2 => by have := (ownblock_cells (h.rows r hr).1 e).1; omega, h.t.trans K fun j e => Or.inr (by omega), boxed_later b1 t2 (by show ¬ (w.heap.size + 1 = w.heap.size + 2); omega), boxed_put b2 _⟩
/-- It is broken. -/
theorem broke (h : LI w W F p q g s k b L got of kn A n c rs got') (h1 : rdyN g k b L got') (h2 : takeE g s (symN g (L got')) ≠ 0) :
    LT w (((W.setCell ⟨q, 5, none⟩ (.bool true)).setCell ⟨w.heap.size + 1, 0, none⟩ (.slice A n c)).setCell ⟨w.heap.size + 2, 0, none⟩ (.int .i64 5)) F p q g s k b L got of kn A n c rs got' true := by
  have hq := h.ql
  have hsz := h.sz
  have t0 : Turned (fun a => a = q) W (W.setCell ⟨q, 5, none⟩ (.bool true)) := Turned.set (F := fun a => a = q) W ⟨q, 5, none⟩ _ rfl
  have sk := h.sk.setBr true
  have y0 := h.y.turned t0 fun a ha e => h.nq (e ▸ ha)
  have o0 := OwnRows.turned h.own t0 fun x e e2 => by have := (ownblock_cells h.own e).1; omega
  have l0 : ∀ r ∈ rs, Own (W.setCell ⟨q, 5, none⟩ (.bool true)) (w.heap.size + 6) 5 r.A r.n r.c r.xs := fun r hr => (h.rows r hr).turned t0 fun x e e2 => by have := (ownblock_cells (h.rows r hr).1 e).1; omega
  have b10 := boxed_later h.b1 t0 (by show ¬ (w.heap.size + 1 = q); omega)
  have b20 := boxed_later h.b2 t0 (by show ¬ (w.heap.size + 2 = q); omega)
  have tt := h.t.trans t0 fun j e => Or.inl e
  obtain ⟨wz, hwz⟩ : ∃ v, W.setCell ⟨q, 5, none⟩ (.bool true) = v := ⟨_, rfl⟩
  rw [hwz] at t0 sk y0 o0 l0 b10 b20 tt ⊢
  have t1 : Turned (fun a => a = w.heap.size + 1) wz (wz.setCell ⟨w.heap.size + 1, 0, none⟩ (.slice A n c)) := Turned.set (F := fun a => a = w.heap.size + 1) wz ⟨w.heap.size + 1, 0, none⟩ _ rfl
  have b1 := boxed_put b10 (.slice A n c)
  have b2 := boxed_later b20 t1 (by show ¬ (w.heap.size + 2 = w.heap.size + 1); omega)
  obtain ⟨wa, hwa⟩ : ∃ v, wz.setCell ⟨w.heap.size + 1, 0, none⟩ (.slice A n c) = v := ⟨_, rfl⟩
  rw [hwa] at t1 b1 b2 ⊢
  have t2 : Turned (fun a => a = w.heap.size + 2) wa (wa.setCell ⟨w.heap.size + 2, 0, none⟩ (.int .i64 5)) := Turned.set (F := fun a => a = w.heap.size + 2) wa ⟨w.heap.size + 2, 0, none⟩ _ rfl
  have K : Turned (fun a => a = w.heap.size + 1 ∨ a = w.heap.size + 2) wz (wa.setCell ⟨w.heap.size + 2, 0, none⟩ (.int .i64 5)) := (t1.mono fun i _ e => Or.inl e).trans (t2.mono fun i _ e => Or.inr e) fun i e => Or.inl e
  exact ⟨sk.turned K (by omega), y0.turned K fun a ha e => by have := h.fl a ha; omega, h.fl, h.ql, h.rel.bad h1 h2, OwnRows.turned o0 K fun x e e2 => by have := (ownblock_cells o0 e).1; omega, fun r hr => (l0 r hr).turned K fun x e e2 => by have := (ownblock_cells (l0 r hr).1 e).1; omega, tt.trans K fun j e => Or.inr (by omega), boxed_later b1 t2 (by show ¬ (w.heap.size + 1 = w.heap.size + 2); omega), boxed_put b2 _⟩
end LI
theorem LT.abide {w W : World} {F : Nat → Prop} {p q g s k b got of n c got' m : Nat} {L : Nat → List (List Nat)} {kn br : Bool} {A : Option Addr} {rs : List RowV} {o o' : Obj} (h : LT w W F p q g s k b L got of kn A n c rs got' br) (hm : w.heap.size + 6 ≤ m) (hb : W.heap[m]? = some o) (hc : o.isCells = false) : LT w (W.putObj m o') F p q g s k b L got of kn A n c rs got' br :=
  have t := turned_putObj W m o'
  have hq := h.ql
  ⟨h.sk.turned t (by omega), h.y.turned t fun a ha e => by have := h.fl a ha; omega, h.fl, h.ql, h.rel, OwnRows.turned h.own t fun x e => by
    obtain ⟨-, cur, h2⟩ := ownblock_cells h.own e
    exact ne_of_cells hb hc h2, fun r hr => (h.rows r hr).turned t fun x e => by
    obtain ⟨-, cur, h2⟩ := ownblock_cells (h.rows r hr).1 e
    exact ne_of_cells hb hc h2, h.t.trans t fun j e => Or.inr (by omega), boxed_later h.b1 t (by omega), boxed_later h.b2 t (by omega)⟩
/-- What Release tells. -/
def LTold (w : World) (F : Nat → Prop) (p q g s k b : Nat) (L : Nat → List (List Nat)) (got of : Nat) (kn : Bool) (e : Ending) (w' : World) : Prop :=
  ∃ (A : Option Addr) (n c : Nat) (rs : List RowV) (n' : Nat) (br : Bool), e = .returned (.tuple #[.slice A n c, .int .i64 (if br then 5 else 0)]) ∧ RelT g s k b L got (rowsXs rs) n' br ∧
    OwnRows w' w.heap.size 43 A n c rs ∧ (∀ r ∈ rs, Own w' w.heap.size 5 r.A r.n r.c r.xs) ∧ SnkR w' q (g : Int) (s : Int) n' of kn br ∧ RelR w' F p g s k b L ∧ Turned (fun a => a = q) w w'
theorem LT.out {w W : World} {F : Nat → Prop} {p q g s k b got of n c got' : Nat} {L : Nat → List (List Nat)} {kn br : Bool} {A : Option Addr} {rs : List RowV} (h : LT w W F p q g s k b L got of kn A n c rs got' br) :
    LTold w F p q g s k b L got of kn (.returned (.tuple #[.slice A n c, .int .i64 (if br then 5 else 0)])) W :=
  ⟨A, n, c, rs, got', br, rfl, h.rel, OwnRows.lowerB h.own (by omega), fun r hr => (h.rows r hr).lower (by omega), h.sk, h.y, h.t⟩
end Go.Proofs.YtgelalbmhllccaaGreat
