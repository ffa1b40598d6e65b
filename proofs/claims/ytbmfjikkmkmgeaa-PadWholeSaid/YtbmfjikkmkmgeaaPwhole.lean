/- PadWhole: the chunks and what is open are the stream; each cut is a chunk's end; more bytes behind change no chunk. -/
import Derived.Test.YtbmfjikkmkmgeaaPwp
import Derived.Test.YtbmfjikkmkmgeaaRegion
import Derived.Deep.RegionHeld3
import Derived.Deep.LoopGhost
import Derived.Deep.DeepCutAuto
import Derived.Deep.CutBlock
namespace Go.Proofs.Ytbmfjikkmkmgeaa
open Go.RowKit
set_option linter.unusedVariables false
set_option linter.unusedSimpArgs false
/-- Five cells of its own. -/
def Five (w : World) (g : Nat) (a b c d e : Value) (t : TypeId) : Prop := w.heap[g]? = some (.cells #[a, b, c, d, e] t (0, 0))
theorem Five.cells {w : World} {g : Nat} {a b c d e : Value} {t : TypeId} (h : Five w g a b c d e t) : w.cell? ⟨g, 0, none⟩ = some a ∧ w.cell? ⟨g, 1, none⟩ = some b ∧ w.cell? ⟨g, 2, none⟩ = some c ∧ w.cell? ⟨g, 3, none⟩ = some d ∧ w.cell? ⟨g, 4, none⟩ = some e := by
  unfold Five at h; simp [World.cell?, h]
theorem Five.keep {w w' : World} {g : Nat} {a b c d e : Value} {t : TypeId} (h : Five w g a b c d e t) (k : Keep w w') : Five w' g a b c d e t := (k.block g (lt_of_block h)).trans h
theorem RowsIn.head {w : World} {F : Nat → Prop} {A : Option Addr} {n k : Nat} {rs : List RowV} (h : RowsIn w F A n rs) (hk : k ≤ n) : RowsIn w F A k (rs.take k) :=
  ⟨by rw [List.length_take, h.1]; omega, fun r hr => h.2.1 r (List.mem_of_mem_take hr), fun hp => by
    obtain ⟨b, off, e, hb, hc⟩ := h.2.2 (by omega)
    exact ⟨b, off, e, hb, fun i r hi => hc i r (by rw [List.getElem?_take] at hi; split at hi <;> first | exact hi | cases hi)⟩⟩
theorem Ends.mono {w : World} {B n : Nat} {E E' : Int → Prop} (h : Ends w B n E) (hE : ∀ z, E' z → E z) : Ends w B n E' := by
  obtain ⟨D, h1, h2, h3⟩ := h
  exact ⟨D, h1, h2, fun z hz => h3 z (hE z hz)⟩
set_option maxRecDepth 100000 in
set_option maxHeartbeats 8000000 in
theorem padwhole_any (g0 s0 : Int) (n0 c0 n1 c1 n2 c2 : Nat) (A0 A1 A2 : Option Addr) (xs : List Nat) (l : List Int) (ys : List Nat) (W : World) (b0 : Bytes W W.heap.size A0 n0 xs) (b1 : IntsAt W W.heap.size A1 n1 l) (hz : ∀ z ∈ l, -9223372036854775808 ≤ z ∧ z ≤ 9223372036854775807) (b2 : Bytes W W.heap.size A2 n2 ys) (l0 : n0 ≤ 140737488351232) (q0 : n0 ≤ c0) (l1 : n1 ≤ 140737488351232) (q1 : n1 ≤ c1) (l2 : n2 ≤ 140737488351232) (q2 : n2 ≤ c2) :
    Calls Try.prog 6 #[.agg #[.int .i64 g0, .int .i64 s0, .slice A0 n0 c0, .slice A1 n1 c1, .slice A2 n2 c2]] W fun e w' => e = .returned (.bool true) ∧ Keep W w' := by
  obtain ⟨n, hn⟩ : ∃ n, min n0 2000 = n := ⟨_, rfl⟩
  have hmin0 := run_least n0 2000 n 2000 rfl hn
  have hhead0 := head_bytes n n0 c0 A0 (by omega)
  have hnb : n ≤ 2000 := by omega
  have hnc : n ≤ c0 := by omega
  obtain ⟨g, hg⟩ : ∃ g, sizeV 255 g0 = g := ⟨_, rfl⟩
  obtain ⟨s, hs⟩ : ∃ s, sizeV 65535 s0 = s := ⟨_, rfl⟩
  have HS0 : ∀ w, Calls Try.prog 9 #[.int .i64 g0, .int .i64 s0] w fun e w' => e = .returned (.tuple #[.int .i64 g, .int .i64 s]) ∧ w = w' := fun w => by rw [← hg, ← hs]; exact sizes_any g0 s0 w
  have HSZ := Lib.hid HS0
  clear HS0
  obtain ⟨gW, hgW⟩ : ∃ gW, W.heap.size = gW := ⟨_, rfl⟩
  obtain ⟨w0, hw0⟩ : ∃ w0, W.alloc (.cells #[.int .i64 g0, .int .i64 s0, .slice A0 n0 c0, .slice A1 n1 c1, .slice A2 n2 c2] 52) = w0 := ⟨_, rfl⟩
  have f0 : Five w0 gW (.int .i64 g0) (.int .i64 s0) (.slice A0 n0 c0) (.slice A1 n1 c1) (.slice A2 n2 c2) 52 := by rw [← hw0, ← hgW]; exact heap_alloc_new W _
  have K0 : Hid (Keep W w0) := by show Keep _ _; rw [← hw0]; exact (Keep.refl W).ob _
  have F0 := Lib.hid f0
  obtain ⟨_, _, x2, x3, x4⟩ := f0.cells
  have B0 := Lib.hid (b0.cut (m := n) (by omega))
  obtain ⟨xa, hxa⟩ : ∃ xa, xs.take n = xa := ⟨_, rfl⟩
  rw [hxa] at B0
  have HXL : Hid (xa.length = n) := B0.out.length
  have B1 := Lib.hid b1
  have HZ := Lib.hid hz
  have B2 := Lib.hid b2
  have HGW := Lib.hid hgW
  clear f0 b0 b1 b2 hz hg hs hn hxa
  go_enter Try.func6, Try.ntmps6
  go_wp2_with fail
  refine wp_region_noPanic ?_
  refine wp_region_held_drew (S := fun wz => wz.cell? ⟨gW, 2, none⟩ = some (.slice A0 n0 c0) ∧ wz.cell? ⟨gW, 3, none⟩ = some (.slice A1 n1 c1) ∧ wz.cell? ⟨gW, 4, none⟩ = some (.slice A2 n2 c2)) (by kernel_rfl) ⟨x2, x3, x4⟩ (fun hHeld => ?_)
  refine wpAnyH_take (i := 0) (v := ?_) rfl (by kernel_rfl) (by kernel_rfl) (by kernel_rfl) (fun _ _ _ h => h) (Or.inl ⟨by rfl, ?_⟩) hHeld ?_
  rotate_left
  · intro wq hSw
    go_simp
    all_goals with_reducible rfl
  try simp only [Act.put, List.getElem_toArray, List.getElem_cons_succ, List.getElem_cons_zero, List.setIfInBounds_toArray, List.set_cons_zero, List.set_cons_succ]
  refine wpAnyH_take (i := 1) (v := ?_) rfl (by kernel_rfl) (by kernel_rfl) (by kernel_rfl) (fun _ _ _ h => h) (Or.inl ⟨by rfl, ?_⟩) hHeld ?_
  rotate_left
  · intro wq hSw
    have q0 := hSw.1
    have q1 := hSw.2.1
    go_simp
    all_goals with_reducible rfl
  try simp only [Act.put, List.getElem_toArray, List.getElem_cons_succ, List.getElem_cons_zero, List.setIfInBounds_toArray, List.set_cons_zero, List.set_cons_succ]
  refine wpAnyH_take (i := 2) (v := ?_) rfl (by kernel_rfl) (by kernel_rfl) (by kernel_rfl) (fun _ _ _ h => h) (Or.inl ⟨by rfl, ?_⟩) hHeld ?_
  rotate_left
  · intro wq hSw
    go_simp
    all_goals with_reducible rfl
  try simp only [Act.put, List.getElem_toArray, List.getElem_cons_succ, List.getElem_cons_zero, List.setIfInBounds_toArray, List.set_cons_zero, List.set_cons_succ]
  refine wpAnyH_take (i := 3) (v := ?_) rfl (by kernel_rfl) (by kernel_rfl) (by kernel_rfl) (fun _ _ _ h => h) (Or.inl ⟨by rfl, ?_⟩) hHeld ?_
  rotate_left
  · intro wq hSw
    have q0 := hSw.2.2
    go_simp
    all_goals with_reducible rfl
  try simp only [Act.put, List.getElem_toArray, List.getElem_cons_succ, List.getElem_cons_zero, List.setIfInBounds_toArray, List.set_cons_zero, List.set_cons_succ]
  refine wpAnyH_ready (rs := [4]) (by kernel_rfl) (by simp) ?_
  refine AllReadyH.cons rfl (fun K hK => ?_) AllReadyH.nil
  go_simp
  refine hK.out _ _ (F0.out.keep (((Keep.refl w0).drew).ob _)).cells.2.2 (fun hHeld => ?_)
  clear hK K
  try simp only [Act.put, List.getElem_toArray, List.getElem_cons_succ, List.getElem_cons_zero, List.setIfInBounds_toArray, List.set_cons_zero, List.set_cons_succ]
  refine wpAnyH_ready (rs := [5]) (by kernel_rfl) (by simp) ?_
  refine AllReadyH.cons rfl (fun K hK => ?_) AllReadyH.nil
  go_simp
  obtain ⟨gS, hgS⟩ : ∃ gS, w0.heap.size = gS := ⟨_, rfl⟩
  obtain ⟨w1, hw1⟩ : ∃ w1, (w0.alloc (.cells #[.slice A0 n0 c0, .slice A1 n1 c1] 45)).drew = w1 := ⟨_, rfl⟩
  have k01 : Keep w0 w1 := by rw [← hw1]; exact ((Keep.refl w0).ob _).drew
  have F1 := Lib.hid (F0.out.keep k01)
  have K1 : Hid (Keep W w1) := K0.out.trans k01
  have p1 : Pair2 w1 gS (.slice A0 n0 c0) (.slice A1 n1 c1) 45 := by rw [← hw1, ← hgS]; exact Pair2.new w0 _ _ _
  have P1 := Lib.hid p1
  rw [hw1, hgS]
  refine hK.out _ _ F1.out.cells.2.2 (fun hHeld => ?_)
  clear hK K hw1 hgS k01
  try simp only [Act.put, List.getElem_toArray, List.getElem_cons_succ, List.getElem_cons_zero, List.setIfInBounds_toArray, List.set_cons_zero, List.set_cons_succ]
  refine wpAnyH_take (i := 6) (v := ?_) rfl (by kernel_rfl) (by kernel_rfl) (by kernel_rfl) (fun _ _ _ h => h) (Or.inl ⟨by rfl, ?_⟩) hHeld ?_
  rotate_left
  · intro wq hSw
    go_simp
    all_goals with_reducible rfl
  try simp only [Act.put, List.getElem_toArray, List.getElem_cons_succ, List.getElem_cons_zero, List.setIfInBounds_toArray, List.set_cons_zero, List.set_cons_succ]
  refine wpAnyH_done (by kernel_rfl) ?_ _
  refine NoPanic.normal ?_
  clear hHeld
  obtain ⟨y0, y1, _, _, _⟩ := F1.out.cells
  have z0 := p1.cell0
  have z1 := p1.cell1
  clear x2 x3 x4 p1
  go_wp2_with fail
  refine (HSZ.out w1).mono ?_
  rintro e w2 ⟨rfl, rfl⟩
  go_upto_block 0 with fail
  go_cut [8, 9] (fun av lv wx => ∃ (k last : Nat) (Ac : Option Addr) (cc : Nat) (cs : List Nat), k ≤ 40 ∧ av = .slice Ac k cc ∧ OwnI wx w1.heap.size Ac k cc cs ∧ Rising n cs last ∧ Keep w1 wx)
  case first =>
    go_wp2_with fail
    go_loopw [8, 9, 48] (fun av lv iv wr => ∃ (i last : Nat) (Ac : Option Addr) (cc : Nat) (cs : List Nat), i ≤ n1 ∧ i ≤ 40 ∧ iv = .int .i64 i ∧ av = .slice Ac i cc ∧ lv = .int .i64 last ∧ OwnI wr w1.heap.size Ac i cc cs ∧ Rising n cs last ∧ Keep w1 wr) (fun _ _ iv _ => n1 - (intOf iv).toNat)
    case atStart => exact ⟨0, 0, none, 0, [], by omega, by omega, rfl, rfl, rfl, OwnI.none_ _ _, ⟨fun x hx => by simp at hx, Nat.zero_le _, fun i j x y _ hi _ => by simp at hi⟩, Keep.refl _⟩
    case round =>
      obtain ⟨i, last, Ac, cc, cs, hi1, hi2, rfl, rfl, rfl, ho, hr, hk⟩ := hrel
      have HO := Lib.hid ho
      have HR := Lib.hid hr
      have HK := Lib.hid hk
      have f1 : (0 : Int) ≤ (i : Int) := Int.natCast_nonneg _
      clear ho hr hk
      by_cases hlt : i < n1
      · have f2 : (i : Int) < (n1 : Int) := by omega
        obtain ⟨bI, off, rfl, hbI, hcell⟩ := (B1.out.keep (Nat.le_refl _) (K1.out.trans HK.out)).2 (by omega)
        have hx := List.getElem?_eq_getElem (l := l) (i := i) (by rw [B1.out.1]; exact hlt)
        obtain ⟨z, hzz⟩ : ∃ z, l[i]'(by rw [B1.out.1]; exact hlt) = z := ⟨_, rfl⟩
        rw [hzz] at hx
        have c1 := hcell i z hx
        clear hx hzz hcell hbI
        by_cases h40 : i = 40
        · subst h40
          go_wp2_with fail
          go_meet
          case rel => exact ⟨40, last, Ac, cc, cs, by omega, rfl, HO.out, HR.out, HK.out⟩
        · have e40 : ((i : Int) == 40) = false := beq_eq_false_iff_ne.2 (by omega)
          have e40' : ¬ (i : Int) = 40 := by omega
          have hln : last ≤ n := HR.out.2.1
          obtain ⟨d, hd⟩ : ∃ d, n - last = d := ⟨_, rfl⟩
          obtain ⟨u, hu⟩ : ∃ u : Nat, IntKind.u64.wrap z = (u : Int) := by
            have := wrap_within .u64 z
            have h0 : (IntKind.u64).min = 0 := rfl
            rw [h0] at this
            exact ⟨(IntKind.u64.wrap z).toNat, by omega⟩
          have hub : u < 18446744073709551616 := by
            have := (wrap_within .u64 z).2
            have h0 : (IntKind.u64).max = 18446744073709551615 := rfl
            rw [h0, hu] at this; omega
          obtain ⟨r, hr⟩ : ∃ r, u % (d + 1) = r := ⟨_, rfl⟩
          have hrd : r ≤ d := by have := Nat.mod_lt u (show 0 < d + 1 by omega); omega
          have e1 : IntKind.i64.wrap ((n : Int) - (last : Int)) = (d : Int) := by rw [show (n : Int) - (last : Int) = (d : Int) by omega]; exact IntWalk.i64_in _ (by omega)
          have e2 : IntKind.i64.wrap ((d : Int) + 1) = (d : Int) + 1 := IntWalk.i64_in _ (by omega)
          have e3 : IntKind.u64.wrap ((d : Int) + 1) = (d : Int) + 1 := IntWalk.u64_in _ (by omega)
          have e40'' : ((u % (d + 1) : Nat) : Int) = (u : Int) % ((d + 1 : Nat) : Int) := Int.natCast_emod u (d + 1)
          have e4 : (u : Int).tmod ((d : Int) + 1) = (r : Int) := by rw [Int.tmod_eq_emod_of_nonneg (by omega), ← hr, e40'']; rfl
          have e4' : (u : Int) % ((d : Int) + 1) = (r : Int) := by rw [← hr, e40'']; rfl
          have e5 : IntKind.i64.wrap (r : Int) = (r : Int) := IntWalk.i64_in _ (by omega)
          have e5' : IntKind.u64.wrap (r : Int) = (r : Int) := IntWalk.u64_in _ (by omega)
          have e6 : IntKind.i64.wrap ((last : Int) + (r : Int)) = (last : Int) + (r : Int) := IntWalk.i64_in _ (by omega)
          have e7 : ¬ (d : Int) + 1 = 0 := by omega
          have e7' : ((d : Int) + 1 == 0) = false := beq_eq_false_iff_ne.2 e7
          have HR2 := Lib.hid (HR.out.more (r := r) (by omega))
          have HD := Lib.hid (And.intro hd hr)
          clear hd hr e40''
          go_wp2_with (at_builtin; refine wpList_append_one rfl _ _ 43 rfl Try.underlying43 infoInt rfl (HO.out.alloc _) rfl (by rw [World.cell?_alloc_new]; rfl) ?c1 (by have := HK.out.size; simp; omega) ?_)
          case c1 => omega
          intro A5 c5 w5 o5 gr5
          have o5 : OwnI w5 w1.heap.size A5 (i + 1) c5 (cs ++ [last + r]) := by
            have e : (cs ++ [last + r]).map (fun x : Nat => Value.int .i64 (x : Int)) = cs.map (fun x : Nat => Value.int .i64 (x : Int)) ++ [.int .i64 ((last : Int) + (r : Int))] := by simp
            show World.ownsRow _ _ _ _ _ _ _
            rw [e]; exact o5
          have O5 := Lib.hid o5
          have K5 := Lib.hid (Keep.grown (HK.out.ob (.cells #[.int .i64 ((last : Int) + (r : Int))] 3)) gr5 fun b hb => HO.out.rowLe b hb)
          clear o5 gr5
          go_wp2_with fail
          go_roundw
          case rel => exact ⟨i + 1, last + r, A5, c5, cs ++ [last + r], by omega, by omega, by go_num, rfl, by go_num, O5.out, HR2.out, K5.out⟩
          case measure => simp [intOf]; omega
      · obtain rfl : i = n1 := by omega
        go_wp2_with fail
        go_meet
        case rel => exact ⟨i, last, Ac, cc, cs, hi2, rfl, HO.out, HR.out, HK.out⟩
  case rest =>
    obtain ⟨k, last, Ac, cc, cs, hk40, rfl, ho, hr, hk⟩ := hcut
    have OC := Lib.hid ho
    have RI := Lib.hid hr
    have KC : Hid (Keep W wc) := K1.out.trans hk
    clear ho hr hk y0 y1 z0 z1 hmin0 hhead0
    by_cases hM : MayG g s
    · obtain ⟨G, S, P, rfl, rfl, a1, a2, a3, a4, a5, a6, a7, a8⟩ := hM.nat
      obtain ⟨room, hroom⟩ : ∃ room, P - 4 = room := ⟨_, rfl⟩
      have hr1 : 1 ≤ room := by omega
      have hrb : room ≤ 16711421 := by omega
      have hRm := fun w => proom_in G S P a1 a2 a3 a4 a8 a6 a7 w
      have hle : ∀ x ∈ cs, x ≤ n := fun x hx => Nat.le_trans (RI.out.1 x hx) RI.out.2.1
      have hCh := pchunks_in G S P n k a1 a2 a3 a4 a8 a6 a7 (by omega) (by omega) A0 Ac c0 cc xa cs wc (B0.out.up KC.out) hnc OC.out.ints hle RI.out.2.2
      obtain ⟨M, hMM⟩ : ∃ M, (chunkN (P - 4) cs xa (n + 1)).1 = M := ⟨_, rfl⟩
      obtain ⟨f, hff⟩ : ∃ f, (chunkN (P - 4) cs xa (n + 1)).2 = f := ⟨_, rfl⟩
      rw [hMM, hff] at hCh
      rw [hroom] at hRm hMM hff
      have hxl : xa.length = n := HXL.out
      have hcutM : ∀ c ∈ cs, ∃ j, j ≤ M.length ∧ offs M j = c := fun c hc => by
        have := cut_offs (room := room) (cs := cs) (xs := xa) hr1 hc (by rw [hxl]; exact hle c hc)
        rwa [hxl, hMM] at this
      have hopen : f ≤ n ∧ n - f < room := by
        have := chunk_open (room := room) (cs := cs) (xs := xa) hr1
        rwa [hxl, hff] at this
      have hflat := chunk_flat (room := room) (cuts := cs) (xs := xa) hr1 (n + 1) (by rw [hxl]; exact Nat.le_refl _)
      rw [hMM, hff] at hflat
      have hcount : M.length ≤ n + 1 := by rw [← hMM]; exact chunk_count _
      have hfirst : ∀ ys : List Nat, ∃ l, (chunkN room cs (xa ++ ys) (n + ys.length + 1)).1 = M ++ l := fun ys => by
        have := chunk_first (room := room) (cs := cs) (xs := xa) ys
        rwa [hxl, hMM] at this
      have HCM := Lib.hid hcutM
      have HFL := Lib.hid hflat
      have HCOUNT := Lib.hid hcount
      have HFI := Lib.hid hfirst
      have HRM := Lib.hid hRm
      have HCH := Lib.hid hCh
      have HLE := Lib.hid hle
      have HROOM := Lib.hid hroom
      clear hM hcutM hflat hfirst hRm hCh hle hroom hMM hff hxl
      go_wp2_with fail
      refine (HRM.out wc).mono ?_
      rintro e w2 ⟨rfl, rfl⟩
      go_wp2_with fail
      refine HCH.out.mono ?_
      rintro e w2 ⟨A3, n3, c3, A4, n4, c4, rs, rfl, hL, hx, hO, k2⟩
      have HN3 : Hid (n3 = M.length) := hL.count hx
      have hn3b : n3 ≤ n + 1 := by rw [HN3.out]; exact hcount
      have hn4 : n4 = n - f := by
        have : (xa.drop f).length = n4 := hO.1
        rw [List.length_drop, HXL.out] at this; omega
      subst hn4
      have LA := Lib.hid hL
      have XA := Lib.hid hx
      have OB := Lib.hid (hO.bytes (B := w2.heap.size) fun b hb => hb.2)
      have K2 : Hid (Keep W w2) := KC.out.trans k2
      have OC2 := Lib.hid (OC.out.keep k2)
      obtain ⟨B, hB⟩ : ∃ B, w2.heap.size = B := ⟨_, rfl⟩
      have hmm := @run_makeMap Try.prog
      have hE0 := Ends.made w2
      rw [hB] at hE0
      obtain ⟨w3, hput, hE1, g3⟩ := hE0.put (by omega) 0 (by decide)
      have k23 : Keep w2 w3 := Keep.grown ((Keep.refl w2).allocMap #[] 0) g3 fun b hb => by injection hb with hb; omega
      have E3 : Hid (Ends w3 B 1 (fun z => ∃ j, j ≤ 0 ∧ z = (offs M j : Int))) := hE1.mono fun z hz => by
        obtain ⟨j, hj, e⟩ := hz
        obtain rfl : j = 0 := by omega
        exact Or.inl (by rw [e, offs_zero]; rfl)
      have K23 := Lib.hid k23
      have HBB := Lib.hid hB
      clear hL hx hO k2 hE0 hE1 g3 k23 OC
      go_wp2_with fail
      go_loopw [18, 98] (fun av iv wr => ∃ i : Nat, i ≤ n3 ∧ iv = .int .i64 i ∧ av = .int .i64 (offs M i : Nat) ∧ Ends wr B (i + 1) (fun z => ∃ j, j ≤ i ∧ z = (offs M j : Int)) ∧ Keep w2 wr) (fun _ iv _ => n3 - (intOf iv).toNat)
      case atStart => exact ⟨0, by omega, rfl, by rw [offs_zero]; rfl, E3.out, K23.out⟩
      case round =>
        clear E3 K23 hput hmm
        obtain ⟨i, hi, rfl, rfl, hE, hk⟩ := hrel
        have HE := Lib.hid hE
        have HK := Lib.hid hk
        have f1 : (0 : Int) ≤ (i : Int) := Int.natCast_nonneg _
        by_cases hlt : i < n3
        · have f2 : (i : Int) < (n3 : Int) := by omega
          obtain ⟨bL, off, r, rfl, hbL, hrr, hc, hl⟩ := ((LA.out.later hk).rowsIn).at_ hlt
          have hMi : M[i]? = some r.xs := by rw [← XA.out]; exact rowsXs_get hrr
          obtain ⟨hp1, hp2⟩ := row_piece (xs := xa) HFL.out.1 (by rw [HXL.out]; exact hopen.1) hMi
          have hbnd := HFL.out.2 r.xs (List.mem_of_getElem? hMi)
          have hos := offs_succ hMi
          have hrl : r.xs.length = r.n := hl.1
          rw [hrl] at hp1 hp2 hbnd hos
          obtain ⟨a, ha⟩ : ∃ a, offs M i = a := ⟨_, rfl⟩
          rw [ha] at hp1 hp2 hos
          obtain ⟨t, ht⟩ : ∃ t, a + r.n = t := ⟨_, rfl⟩
          rw [ht] at hp1 hp2 hos
          have htn : t ≤ n := by have := hopen.1; omega
          have hOff : Hid (offs M (i + 1) = t) := hos
          have d1 : decide ((r.n : Int) < 1) = false := decide_eq_false (by omega)
          have d2 : decide ((room : Int) < (r.n : Int)) = false := decide_eq_false (by omega)
          have d3 : decide (r.n < 1) = false := decide_eq_false (by omega)
          have d4 : decide (r.n = 0) = false := decide_eq_false (by omega)
          have d5 : decide (room < r.n) = false := decide_eq_false (by omega)
          have d6 : ¬ r.n = 0 := by omega
          have d7 : ¬ room < r.n := by omega
          have e1 : IntKind.i64.wrap ((a : Int) + (r.n : Int)) = (t : Int) := by rw [show (a : Int) + (r.n : Int) = (t : Int) by omega]; exact IntWalk.i64_in _ (by omega)
          have hmin := run_least t n t (n : Int) rfl (by omega)
          have hsl := run_piece a t n c0 A0 (by omega) (by omega)
          have HEQ := Lib.hid (equal_any _ _ r.n (t - a) r.c (c0 - a) r.A (dropA A0 c0 a) r.xs (pieceN xa a t) wr (hl.bytes (B := wr.heap.size) fun b hb => hb.2) ((B0.out.up (K2.out.trans hk)).piece (f := a) (t := t) (c := c0) (by omega) htn hnc))
          rw [← hp1, decide_eq_true rfl] at HEQ
          obtain ⟨w5, hput, hE5, g5⟩ := hE.put (by omega) (t : Int) (wf_i64 (by omega) (by omega))
          have E5 : Hid (Ends w5 B (i + 1 + 1) (fun z => ∃ j, j ≤ i + 1 ∧ z = (offs M j : Int))) := hE5.mono fun z hz => by
            obtain ⟨j, hj, e⟩ := hz
            rcases Nat.lt_or_ge i j with h1 | h1
            · obtain rfl : j = i + 1 := by omega
              exact Or.inl (by rw [e, hOff.out])
            · exact Or.inr ⟨j, h1, e⟩
          have K5 := Lib.hid (HK.out.grown g5 fun b hb => by injection hb with hb; have := HBB.out; omega)
          rw [ha]
          clear hE hk hbL hrr hl hMi hp1 hbnd hos ha ht hE5 g5 HE
          go_wp2_with fail
          refine HEQ.out.mono ?_
          rintro e w6 ⟨rfl, rfl⟩
          go_wp2_with fail
          go_roundw
          case rel => exact ⟨i + 1, by omega, by go_num, by rw [hOff.out], E5.out, K5.out⟩
          case measure => simp [intOf]; omega
        · obtain rfl : i = n3 := by omega
          have hall : offs M i = f := by rw [HN3.out, offs_all, HFL.out.1, List.length_take, HXL.out]; omega
          rw [hall]
          have hsl := run_behind f n c0 A0 hopen.1
          have hpe : pieceN xa f n = xa.drop f := by
            rw [pieceN]; exact List.take_of_length_le (by rw [List.length_drop, HXL.out]; exact Nat.le_refl _)
          have HEQ := Lib.hid (equal_any _ _ (n - f) (n - f) c4 (c0 - f) A4 (dropA A0 c0 f) (xa.drop f) (pieceN xa f n) wr (OB.out.up hk) ((B0.out.up (K2.out.trans hk)).piece (f := f) (t := n) (c := c0) hopen.1 (Nat.le_refl _) hnc))
          rw [hpe, decide_eq_true rfl] at HEQ
          have d1 : decide ((room : Int) ≤ ((n - f : Nat) : Int)) = false := decide_eq_false (by omega)
          have d1' : decide (room ≤ n - f) = false := decide_eq_false (by omega)
          have KR : Hid (Keep W wr) := K2.out.trans hk
          have LR := Lib.hid (LA.out.later hk)
          have HCR := Lib.hid (OC2.out.keep hk)
          clear hE hk hall hpe LA
          go_wp2_with fail
          refine HEQ.out.mono ?_
          rintro e w6 ⟨rfl, rfl⟩
          go_wp2_with fail
          go_loop [151] (fun iv => ∃ j : Nat, j ≤ k ∧ iv = .int .i64 j) (fun iv => k - (intOf iv).toNat)
          case atStart => exact ⟨0, by omega, rfl⟩
          case round =>
            obtain ⟨j, hj, rfl⟩ := hrel
            have g1 : (0 : Int) ≤ (j : Int) := Int.natCast_nonneg _
            by_cases hjlt : j < k
            · have g2 : (j : Int) < (k : Int) := by omega
              obtain ⟨bC, offC, rfl, hbC, hcell⟩ := HCR.out.ints.2 (by omega)
              have hcl : cs.length = k := HCR.out.length
              have hx := List.getElem?_eq_getElem (l := cs) (i := j) (by omega)
              obtain ⟨x, hxx⟩ : ∃ x, cs[j]'(by omega) = x := ⟨_, rfl⟩
              rw [hxx] at hx
              have c1' := hcell j (x : Int) (by rw [List.getElem?_map, hx]; rfl)
              have hxm := List.mem_of_getElem? hx
              obtain ⟨jj, hj1, hj2⟩ := HCM.out x hxm
              have hxn := HLE.out x hxm
              have hlook := HE.out.look (x : Int) (wf_i64 (by omega) (by omega)) ⟨jj, by rw [HN3.out]; exact hj1, by rw [hj2]⟩
              clear hx hxx hcell hbC hxm hj2
              go_wp2_with fail
              go_round
              case rel => exact ⟨j + 1, by omega, by go_num⟩
              case measure => simp [intOf]; omega
            · obtain rfl : j = k := by omega
              obtain ⟨p, hp⟩ : ∃ p, min n2 200 = p := ⟨_, rfl⟩
              have hmin := run_least n2 200 p 200 rfl hp
              have hhead := head_bytes p n2 c2 A2 (by omega)
              have hpb : p ≤ 200 := by omega
              have BY := Lib.hid (B2.out.cut (m := p) (by omega))
              obtain ⟨ya, hya⟩ : ∃ ya, ys.take p = ya := ⟨_, rfl⟩
              rw [hya] at BY
              have HYL : Hid (ya.length = p) := BY.out.length
              obtain ⟨l9, hl9⟩ := HFI.out ya
              rw [HYL.out] at hl9
              have HL9 := Lib.hid hl9
              clear hp hya hl9
              go_wp2_with fail
              refine wp_region_noPanic ?_
              refine wp_region_held_drew (S := fun wz => Keep wr wz) (by kernel_rfl) (Keep.drew (Keep.refl wr)) (fun hHeld => ?_)
              refine wpAnyH_take (i := 1) (v := ?_) rfl (by kernel_rfl) (by kernel_rfl) (by kernel_rfl) (fun _ _ _ h => h) (Or.inl ⟨by rfl, ?_⟩) hHeld ?_
              rotate_left
              · intro wq hSw
                go_simp
                all_goals with_reducible rfl
              try simp only [Act.put, List.getElem_toArray, List.getElem_cons_succ, List.getElem_cons_zero, List.setIfInBounds_toArray, List.set_cons_zero, List.set_cons_succ]
              refine wpAnyH_take (i := 3) (v := ?_) rfl (by kernel_rfl) (by kernel_rfl) (by kernel_rfl) (fun _ _ _ h => h) (Or.inl ⟨by rfl, ?_⟩) hHeld ?_
              rotate_left
              · intro wq hSw
                go_simp
                all_goals with_reducible rfl
              try simp only [Act.put, List.getElem_toArray, List.getElem_cons_succ, List.getElem_cons_zero, List.setIfInBounds_toArray, List.set_cons_zero, List.set_cons_succ]
              refine wpAnyH_take (i := 4) (v := ?_) rfl (by kernel_rfl) (by kernel_rfl) (by kernel_rfl) (fun _ _ _ h => h) (Or.inl ⟨by rfl, ?_⟩) hHeld ?_
              rotate_left
              · intro wq hSw
                go_simp
                all_goals with_reducible rfl
              try simp only [Act.put, List.getElem_toArray, List.getElem_cons_succ, List.getElem_cons_zero, List.setIfInBounds_toArray, List.set_cons_zero, List.set_cons_succ]
              refine wpAnyH_take (i := 5) (v := ?_) rfl (by kernel_rfl) (by kernel_rfl) (by kernel_rfl) (fun _ _ _ h => h) (Or.inl ⟨by rfl, ?_⟩) hHeld ?_
              rotate_left
              · intro wq hSw
                go_simp
                all_goals with_reducible rfl
              try simp only [Act.put, List.getElem_toArray, List.getElem_cons_succ, List.getElem_cons_zero, List.setIfInBounds_toArray, List.set_cons_zero, List.set_cons_succ]
              refine wpAnyH_take (i := 6) (v := ?_) rfl (by kernel_rfl) (by kernel_rfl) (by kernel_rfl) (fun _ _ _ h => h) (Or.inl ⟨by rfl, ?_⟩) hHeld ?_
              rotate_left
              · intro wq hSw
                go_simp
                all_goals with_reducible rfl
              try simp only [Act.put, List.getElem_toArray, List.getElem_cons_succ, List.getElem_cons_zero, List.setIfInBounds_toArray, List.set_cons_zero, List.set_cons_succ]
              refine wpAnyH_take (i := 7) (v := ?_) rfl (by kernel_rfl) (by kernel_rfl) (by kernel_rfl) (fun _ _ _ h => h) (Or.inl ⟨by rfl, ?_⟩) hHeld ?_
              rotate_left
              · intro wq hSw
                go_simp
                all_goals with_reducible rfl
              try simp only [Act.put, List.getElem_toArray, List.getElem_cons_succ, List.getElem_cons_zero, List.setIfInBounds_toArray, List.set_cons_zero, List.set_cons_succ]
              refine wpAnyH_take (i := 9) (v := ?_) rfl (by kernel_rfl) (by kernel_rfl) (by kernel_rfl) (fun _ _ _ h => h) (Or.inl ⟨by rfl, ?_⟩) hHeld ?_
              rotate_left
              · intro wq hSw
                go_simp
                all_goals with_reducible rfl
              try simp only [Act.put, List.getElem_toArray, List.getElem_cons_succ, List.getElem_cons_zero, List.setIfInBounds_toArray, List.set_cons_zero, List.set_cons_succ]
              refine wpAnyH_take (i := 10) (v := ?_) rfl (by kernel_rfl) (by kernel_rfl) (by kernel_rfl) (fun _ _ _ h => h) (Or.inl ⟨by rfl, ?_⟩) hHeld ?_
              rotate_left
              · intro wq hSw
                go_simp
                all_goals with_reducible rfl
              try simp only [Act.put, List.getElem_toArray, List.getElem_cons_succ, List.getElem_cons_zero, List.setIfInBounds_toArray, List.set_cons_zero, List.set_cons_succ]
              refine wpAnyH_take (i := 11) (v := ?_) rfl (by kernel_rfl) (by kernel_rfl) (by kernel_rfl) (fun _ _ _ h => h) (Or.inl ⟨by rfl, ?_⟩) hHeld ?_
              rotate_left
              · intro wq hSw
                go_simp
                all_goals with_reducible rfl
              try simp only [Act.put, List.getElem_toArray, List.getElem_cons_succ, List.getElem_cons_zero, List.setIfInBounds_toArray, List.set_cons_zero, List.set_cons_succ]
              refine wpAnyH_ready (rs := [0]) (by kernel_rfl) (by simp) ?_
              refine AllReadyH.cons rfl (fun K hK => ?_) AllReadyH.nil
              go_simp
              obtain ⟨w7, hw7⟩ : ∃ w7, (wr.alloc (.cells #[] 5)).drew = w7 := ⟨_, rfl⟩
              have k7 : Keep wr w7 := by rw [← hw7]; exact ((Keep.refl wr).ob _).drew
              have o7 : Own w7 wr.heap.size 5 (some ⟨wr.heap.size, 0, none⟩) 0 0 [] := by rw [← hw7]; exact Own.lit wr 5 0 [] _ rfl rfl (by omega) (by decide)
              have h7 : w7.heap.size = wr.heap.size + 1 := by rw [← hw7]; simp
              rw [hw7]
              refine hK.out _ _ k7 (fun hHeld => ?_)
              clear hK K hw7
              try simp only [Act.put, List.getElem_toArray, List.getElem_cons_succ, List.getElem_cons_zero, List.setIfInBounds_toArray, List.set_cons_zero, List.set_cons_succ]
              refine wpAnyH_ready (rs := [2]) (by kernel_rfl) (by simp) ?_
              refine AllReadyH.cons rfl (fun K hK => ?_) AllReadyH.nil
              refine wp_append_bytes (cx := c0) _ _ 22 rfl Try.underlying22 info5 rfl o7 rfl (B0.out.up (KR.out.trans k7)) (by omega) k7.size ?_
              intro A8 c8 w8 o8 gr8 _
              have k8 : Keep wr w8 := k7.grown gr8 fun b hb => o7.rowLe b hb
              have o8 : Own w8 wr.heap.size 5 A8 n c8 xa := by simpa using o8
              simp only [Nat.zero_add]
              refine hK.out _ _ k8 (fun hHeld => ?_)
              clear hK K gr8 o7
              try simp only [Act.put, List.getElem_toArray, List.getElem_cons_succ, List.getElem_cons_zero, List.setIfInBounds_toArray, List.set_cons_zero, List.set_cons_succ]
              refine wpAnyH_ready (rs := [8]) (by kernel_rfl) (by simp) ?_
              refine AllReadyH.cons rfl (fun K hK => ?_) AllReadyH.nil
              refine wp_append_bytes (cx := c2) _ _ 22 rfl Try.underlying22 info5 rfl o8 rfl (BY.out.up (KR.out.trans k8)) (by omega) k8.size ?_
              intro Aq cq wq oq grq _
              have kq : Keep wr wq := k8.grown grq fun b hb => o8.rowLe b hb
              have OQ := Lib.hid oq
              have KQ := Lib.hid kq
              have KWQ := Lib.hid (KR.out.trans kq)
              refine hK.out _ _ kq (fun hHeld => ?_)
              clear hK K grq o8 oq k7 k8
              try simp only [Act.put, List.getElem_toArray, List.getElem_cons_succ, List.getElem_cons_zero, List.setIfInBounds_toArray, List.set_cons_zero, List.set_cons_succ]
              have hC9 := pchunks_in G S P (n + p) j a1 a2 a3 a4 a8 a6 a7 (by omega) (by omega) Aq Ac cq cc (xa ++ ya) cs wq OQ.out.bytes (own_le OQ.out) ((HCR.out.keep KQ.out).ints) (fun x hx => by have := HLE.out x hx; omega) RI.out.2.2
              rw [HROOM.out, HL9.out] at hC9
              have HC9 := Lib.hid hC9
              clear hC9
              refine wpAnyH_ready (rs := [12]) (by kernel_rfl) (by simp) ?_
              refine AllReadyH.cons rfl (fun K hK => ?_) AllReadyH.nil
              go_simp
              refine HC9.out.mono ?_
              rintro e w9 ⟨A9, n9, c9, Ap, np, cp, rs9, rfl, hL9, hx9, _, k9⟩
              have hn9 := hL9.count hx9
              rw [List.length_append, ← HN3.out] at hn9
              have hn9b : i ≤ n9 := by omega
              clear hn9
              have hc9 : n9 ≤ c9 := ownrows_le hL9.1
              have L9 := Lib.hid hL9
              have X9 := Lib.hid hx9
              have K9 : Hid (Keep wr w9) := kq.trans k9
              refine hK.out _ _ K9.out (fun hHeld => ?_)
              clear hK K hL9 hx9 k9 kq HC9
              try simp only [Act.put, List.getElem_toArray, List.getElem_cons_succ, List.getElem_cons_zero, List.setIfInBounds_toArray, List.set_cons_zero, List.set_cons_succ]
              refine wpAnyH_take (i := 13) (v := ?_) rfl (by kernel_rfl) (by kernel_rfl) (by kernel_rfl) (fun _ _ _ h => h) (Or.inl ⟨by rfl, ?_⟩) hHeld ?_
              rotate_left
              · intro wq hSw
                go_simp
                all_goals with_reducible rfl
              try simp only [Act.put, List.getElem_toArray, List.getElem_cons_succ, List.getElem_cons_zero, List.setIfInBounds_toArray, List.set_cons_zero, List.set_cons_succ]
              refine wpAnyH_take (i := 14) (v := ?_) rfl (by kernel_rfl) (by kernel_rfl) (by kernel_rfl) (fun _ _ _ h => h) (Or.inl ⟨by rfl, ?_⟩) hHeld ?_
              rotate_left
              · intro wq hSw
                go_simp
                all_goals with_reducible rfl
              try simp only [Act.put, List.getElem_toArray, List.getElem_cons_succ, List.getElem_cons_zero, List.setIfInBounds_toArray, List.set_cons_zero, List.set_cons_succ]
              refine wpAnyH_take (i := 15) (v := ?_) rfl (by kernel_rfl) (by kernel_rfl) (by kernel_rfl) (fun _ _ _ h => h) (Or.inl ⟨by rfl, ?_⟩) hHeld ?_
              rotate_left
              · intro wq hSw
                go_simp
                all_goals with_reducible rfl
              try simp only [Act.put, List.getElem_toArray, List.getElem_cons_succ, List.getElem_cons_zero, List.setIfInBounds_toArray, List.set_cons_zero, List.set_cons_succ]
              refine wpAnyH_take (i := 16) (v := ?_) rfl (by kernel_rfl) (by kernel_rfl) (by kernel_rfl) (fun _ _ _ h => h) (Or.inl ⟨by rfl, ?_⟩) hHeld ?_
              rotate_left
              · intro wq hSw
                go_simp
                all_goals with_reducible rfl
              try simp only [Act.put, List.getElem_toArray, List.getElem_cons_succ, List.getElem_cons_zero, List.setIfInBounds_toArray, List.set_cons_zero, List.set_cons_succ]
              refine wpAnyH_take (i := 17) (v := ?_) rfl (by kernel_rfl) (by kernel_rfl) (by kernel_rfl) (fun _ _ _ h => h) (Or.inl ⟨by rfl, ?_⟩) hHeld ?_
              rotate_left
              · intro wq hSw
                go_simp
                all_goals with_reducible rfl
              try simp only [Act.put, List.getElem_toArray, List.getElem_cons_succ, List.getElem_cons_zero, List.setIfInBounds_toArray, List.set_cons_zero, List.set_cons_succ]
              refine wpAnyH_take (i := 18) (v := ?_) rfl (by kernel_rfl) (by kernel_rfl) (by kernel_rfl) (fun _ _ _ h => h) (Or.inl ⟨by rfl, ?_⟩) hHeld ?_
              rotate_left
              · intro wq hSw
                go_simp
                all_goals with_reducible rfl
              try simp only [Act.put, List.getElem_toArray, List.getElem_cons_succ, List.getElem_cons_zero, List.setIfInBounds_toArray, List.set_cons_zero, List.set_cons_succ]
              refine wpAnyH_take (i := 19) (v := ?_) rfl (by kernel_rfl) (by kernel_rfl) (by kernel_rfl) (fun _ _ _ h => h) (Or.inl ⟨by rfl, ?_⟩) hHeld ?_
              rotate_left
              · intro wq hSw
                go_simp
                all_goals with_reducible rfl
              try simp only [Act.put, List.getElem_toArray, List.getElem_cons_succ, List.getElem_cons_zero, List.setIfInBounds_toArray, List.set_cons_zero, List.set_cons_succ]
              refine wpAnyH_done (by kernel_rfl) ?_ _
              refine NoPanic.normal ?_
              clear hHeld
              go_wp2_with fail
              refine (awake_any w9).mono ?_
              rintro e w10 ⟨rfl, k10⟩
              have R9 := Lib.hid ((L9.out.rowsIn.turned (Turned.of_keep (F := fun _ => False) k10) fun _ _ e => e).head (k := i) hn9b)
              have RR := Lib.hid (LR.out.rowsIn.turned (Turned.of_keep (F := fun _ => False) (K9.out.trans k10)) fun _ _ e => e)
              have hS := rsame_any i i c9 c3 A9 A3 _ _ (rs9.take i) rs w10 R9.out RR.out (fun b hb => Nat.lt_of_lt_of_le hb.2 k10.size) (fun b hb => Nat.lt_of_lt_of_le hb.2 (K9.out.trans k10).size) (by omega)
              have hX : rowsXs (rs9.take i) = M := by
                have e : rowsXs (rs9.take i) = (rowsXs rs9).take i := by simp [rowsXs, List.map_take]
                rw [e, X9.out, HN3.out, List.take_left' rfl]
              rw [hX, XA.out, decide_eq_true rfl] at hS
              have HS := Lib.hid hS
              have hsl9 := head_rows i n9 c9 A9 (Nat.le_trans hn9b hc9)
              have d9 : decide ((i : Int) ≤ (n9 : Int)) = true := decide_eq_true (by omega)
              have d9' : decide (i ≤ n9) = true := decide_eq_true (by omega)
              have K10 : Hid (Keep W w10) := KR.out.trans (K9.out.trans k10)
              clear hS hX k10
              clear hmin hhead hsl d1 d1' HCR HCM HFL HFI HRM HCH HLE HEQ BY HL9 LR OB
              go_wp2_with fail
              refine HS.out.mono ?_
              rintro e w11 ⟨rfl, q11, rfl⟩
              have K11 := Lib.hid (K10.out.drewN q11)
              go_wp2_with fail
              go_ret
              exact ⟨rfl, K11.out⟩
    · have HR := Lib.hid (fun w => proom_out g s hM w)
      go_wp2_with fail
      refine (HR.out wc).mono ?_
      rintro e w2 ⟨rfl, rfl⟩
      go_wp2_with fail
      refine (pchunks_out g s hM _ _ _ _ _ _ _).mono ?_
      rintro e w2 ⟨Aa, na, ca, Ao, no, co, ra, rfl, _, _, _, k2⟩
      have K2 : Hid (Keep W w2) := KC.out.trans k2
      clear k2
      go_wp2_with fail
      refine (awake_any w2).mono ?_
      rintro e w3 ⟨rfl, k3⟩
      have K3 : Hid (Keep W w3) := K2.out.trans k3
      clear k3
      go_wp2_with fail
      go_ret
      exact ⟨rfl, K3.out⟩
end Go.Proofs.Ytbmfjikkmkmgeaa
