/- The landed calls of layer 8 in the words of matrices side by side; the chapter's rows: wakes. -/
import Derived.Test.YtofhdaeeiienfaaSc
import Derived.Test.YtofhdaeeiienfaaSshape
namespace Go.Proofs.Ytofhdaeeiienfaa
open Go.RowKit Lin
set_option linter.unusedVariables false
set_option linter.unusedSimpArgs false
section
variable {w : World} {A A' : Option Addr} {n n' c c' : Nat} {M N : List (List Nat)}
theorem sum_mat (h : Mat w ⟨A, n, c, M⟩) (k : Mat w ⟨A', n', c', N⟩) (hn : n ≤ 400) (hn' : n' ≤ 400) (hc : sizeC (M ++ N) ≤ 400) :
    Calls Try.prog 21 #[.slice A n c, .slice A' n' c'] w (NewMat w (reduceN (M ++ N)) (sizeE (M ++ N))) := (sum_new h k hn hn' hc).mono fun _ _ => NewMat.of_new
theorem meet_mat (h : Mat w ⟨A, n, c, M⟩) (k : Mat w ⟨A', n', c', N⟩) (hn : n ≤ 400) (hn' : n' ≤ 400) (hc : sizeC (M ++ N) ≤ 400) :
    Calls Try.prog 23 #[.slice A n c, .slice A' n' c'] w (NewMat w (meetV M N) (sizeE (M ++ N))) := (meet_new h k hn hn' hc).mono fun _ _ => NewMat.of_new
end
/-- Literals in a row, each behind the other: what lies there. -/
theorem lits_has (w : World) (n m : Nat) (xs ys : List Nat) (cs ds es : Array Value) (hc : cs = (u8s xs).toArray) (hl : xs.length = n) (hx : AllB xs) (hd : ds = #[.slice (some ⟨w.heap.size, 0, none⟩) n n]) (he : es = (u8s ys).toArray) (hm : ys.length = m) (hy : AllB ys) {w2 : World} (hw : ((w.alloc (.cells cs 5)).alloc (.cells ds 23)).alloc (.cells es 5) = w2) :
    Mat w2 ⟨some ⟨w.heap.size + 1, 0, none⟩, 1, 1, [xs]⟩ ∧ LiesIn w2 (fun b => b < w2.heap.size) ⟨some ⟨w.heap.size + 1 + 1, 0, none⟩, m, m, ys⟩ ∧ Keep w w2 := by
  subst hw
  refine ⟨(lit1 5 23 n xs cs ds hc hl hx hd).keep ((Keep.refl _).obj _), ?_, (((Keep.refl w).obj _).obj _).obj _⟩
  exact (lit_row (by rw [size_obj, size_obj]) 5 m ys es he hm hy).wider (by rw [size_obj, size_obj, size_obj]; exact Nat.le_refl _)
theorem lits_row (w : World) (m : Nat) (ys : List Nat) (es : Array Value) (he : es = (u8s ys).toArray) (hm : ys.length = m) (hy : AllB ys) {w2 : World} (hw : w.alloc (.cells es 5) = w2) :
    LiesIn w2 (fun b => b < w2.heap.size) ⟨some ⟨w.heap.size, 0, none⟩, m, m, ys⟩ ∧ Keep w w2 := by
  subst hw
  exact ⟨(lit_row rfl 5 m ys es he hm hy).wider (by rw [size_obj]; exact Nat.le_refl _), (Keep.refl w).obj _⟩
theorem lits_11 (w : World) (n m : Nat) (xs ys : List Nat) (cs ds es fs : Array Value) (hc : cs = (u8s xs).toArray) (hl : xs.length = n) (hx : AllB xs) (hd : ds = #[.slice (some ⟨w.heap.size, 0, none⟩) n n]) (he : es = (u8s ys).toArray) (hm : ys.length = m) (hy : AllB ys) (hf : fs = #[.slice (some ⟨w.heap.size + 1 + 1, 0, none⟩) m m]) {w2 : World}
    (hw : (((w.alloc (.cells cs 5)).alloc (.cells ds 23)).alloc (.cells es 5)).alloc (.cells fs 23) = w2) :
    Mat w2 ⟨some ⟨w.heap.size + 1, 0, none⟩, 1, 1, [xs]⟩ ∧ Mat w2 ⟨some ⟨w.heap.size + 1 + 1 + 1, 0, none⟩, 1, 1, [ys]⟩ ∧ Keep w w2 := by
  subst hw
  refine ⟨(lit1 5 23 n xs cs ds hc hl hx hd).keep (((Keep.refl _).obj _).obj _), ?_, ((((Keep.refl w).obj _).obj _).obj _).obj _⟩
  have h := lit1 (w := (w.alloc (.cells cs 5)).alloc (.cells ds 23)) 5 23 m ys es fs he hm hy (by rw [size_obj, size_obj]; exact hf)
  rw [size_obj, size_obj] at h
  exact h
theorem lits_22 (w : World) (n m n' m' : Nat) (xs ys xs' ys' : List Nat) (cs es ds cs' es' ds' : Array Value) (hc : cs = (u8s xs).toArray) (hl : xs.length = n) (hx : AllB xs) (he : es = (u8s ys).toArray) (hm : ys.length = m) (hy : AllB ys) (hd : ds = #[.slice (some ⟨w.heap.size, 0, none⟩) n n, .slice (some ⟨w.heap.size + 1, 0, none⟩) m m])
    (hc' : cs' = (u8s xs').toArray) (hl' : xs'.length = n') (hx' : AllB xs') (he' : es' = (u8s ys').toArray) (hm' : ys'.length = m') (hy' : AllB ys') (hd' : ds' = #[.slice (some ⟨w.heap.size + 1 + 1 + 1, 0, none⟩) n' n', .slice (some ⟨w.heap.size + 1 + 1 + 1 + 1, 0, none⟩) m' m']) {w2 : World}
    (hw : (((((w.alloc (.cells cs 5)).alloc (.cells es 5)).alloc (.cells ds 23)).alloc (.cells cs' 5)).alloc (.cells es' 5)).alloc (.cells ds' 23) = w2) :
    Mat w2 ⟨some ⟨w.heap.size + 1 + 1, 0, none⟩, 2, 2, [xs, ys]⟩ ∧ Mat w2 ⟨some ⟨w.heap.size + 1 + 1 + 1 + 1 + 1, 0, none⟩, 2, 2, [xs', ys']⟩ ∧ Keep w w2 := by
  subst hw
  refine ⟨(lit2 5 23 n m xs ys cs es ds hc hl hx he hm hy hd).keep ((((Keep.refl _).obj _).obj _).obj _), ?_, ((((((Keep.refl w).obj _).obj _).obj _).obj _).obj _).obj _⟩
  have h := lit2 (w := ((w.alloc (.cells cs 5)).alloc (.cells es 5)).alloc (.cells ds 23)) 5 23 n' m' xs' ys' cs' es' ds' hc' hl' hx' he' hm' hy' (by rw [size_obj, size_obj, size_obj]; exact hd')
  rw [size_obj, size_obj, size_obj] at h
  exact h
theorem lits_2 (w : World) (n m : Nat) (xs ys : List Nat) (cs es ds : Array Value) (hc : cs = (u8s xs).toArray) (hl : xs.length = n) (hx : AllB xs) (he : es = (u8s ys).toArray) (hm : ys.length = m) (hy : AllB ys) (hd : ds = #[.slice (some ⟨w.heap.size, 0, none⟩) n n, .slice (some ⟨w.heap.size + 1, 0, none⟩) m m]) {w2 : World}
    (hw : ((w.alloc (.cells cs 5)).alloc (.cells es 5)).alloc (.cells ds 23) = w2) : Mat w2 ⟨some ⟨w.heap.size + 1 + 1, 0, none⟩, 2, 2, [xs, ys]⟩ ∧ Keep w w2 := by
  subst hw
  exact ⟨lit2 5 23 n m xs ys cs es ds hc hl hx he hm hy hd, (((Keep.refl w).obj _).obj _).obj _⟩
theorem lits_21 (w : World) (n m k : Nat) (xs ys zs : List Nat) (cs es ds fs gs : Array Value) (hc : cs = (u8s xs).toArray) (hl : xs.length = n) (hx : AllB xs) (he : es = (u8s ys).toArray) (hm : ys.length = m) (hy : AllB ys) (hd : ds = #[.slice (some ⟨w.heap.size, 0, none⟩) n n, .slice (some ⟨w.heap.size + 1, 0, none⟩) m m])
    (hf : fs = (u8s zs).toArray) (hk : zs.length = k) (hz : AllB zs) (hg : gs = #[.slice (some ⟨w.heap.size + 1 + 1 + 1, 0, none⟩) k k]) {w2 : World}
    (hw : ((((w.alloc (.cells cs 5)).alloc (.cells es 5)).alloc (.cells ds 23)).alloc (.cells fs 5)).alloc (.cells gs 23) = w2) :
    Mat w2 ⟨some ⟨w.heap.size + 1 + 1, 0, none⟩, 2, 2, [xs, ys]⟩ ∧ Mat w2 ⟨some ⟨w.heap.size + 1 + 1 + 1 + 1, 0, none⟩, 1, 1, [zs]⟩ ∧ Keep w w2 := by
  subst hw
  refine ⟨(lit2 5 23 n m xs ys cs es ds hc hl hx he hm hy hd).keep (((Keep.refl _).obj _).obj _), ?_, (((((Keep.refl w).obj _).obj _).obj _).obj _).obj _⟩
  have h := lit1 (w := ((w.alloc (.cells cs 5)).alloc (.cells es 5)).alloc (.cells ds 23)) 5 23 k zs fs gs hf hk hz (by rw [size_obj, size_obj, size_obj]; exact hg)
  rw [size_obj, size_obj, size_obj] at h
  exact h
theorem lits_1 (w : World) (n : Nat) (xs : List Nat) (cs ds : Array Value) (hc : cs = (u8s xs).toArray) (hl : xs.length = n) (hx : AllB xs) (hd : ds = #[.slice (some ⟨w.heap.size, 0, none⟩) n n]) {w2 : World} (hw : (w.alloc (.cells cs 5)).alloc (.cells ds 23) = w2) : Mat w2 ⟨some ⟨w.heap.size + 1, 0, none⟩, 1, 1, [xs]⟩ ∧ Keep w w2 := by
  subst hw
  exact ⟨lit1 5 23 n xs cs ds hc hl hx hd, ((Keep.refl w).obj _).obj _⟩
theorem k_has : conV [[1, 2]] [[2, 4]] = true ∧ sizeE ([[1, 2]] ++ [[2, 4]]) = 0 ∧ conV [[1, 2]] [[1, 1]] = false ∧ sizeE ([[1, 2]] ++ [[1, 1]]) = 0 ∧ conV [] [[0, 0]] = true ∧ sizeE ([] ++ [[0, 0]]) = 0 := by decide +kernel
theorem k_meet : meetV [[1, 0, 0], [0, 1, 0]] [[0, 1, 0], [0, 0, 1]] = [[0, 1, 0]] ∧ sizeE ([[1, 0, 0], [0, 1, 0]] ++ [[0, 1, 0], [0, 0, 1]]) = 0 := by decide +kernel
theorem k_wit : witN [[1, 1], [0, 1]] [[1, 1]] = [0, 1] ∧ witB [[1, 1], [0, 1]] [[1, 1]] = true ∧ sizeE ([[1, 1], [0, 1]] ++ [[1, 1]]) = 0 := by decide +kernel
theorem k_cols : sizeC ([[1, 2]] ++ [[2, 4]]) = 2 ∧ sizeC ([[1, 2]] ++ [[1, 1]]) = 2 ∧ sizeC ([] ++ [[0, 0]]) = 2 ∧ sizeC ([[1, 0, 0], [0, 1, 0]] ++ [[0, 1, 0], [0, 0, 1]]) = 3 ∧ sizeC ([[1, 1], [0, 1]] ++ [[1, 1]]) = 2 := by decide +kernel
set_option maxRecDepth 100000 in
set_option maxHeartbeats 4000000 in
theorem wakes_any (w : World) : Calls Try.prog 27 #[] w fun e w' => e = .returned (.bool true) ∧ Keep w w' := by
  go_enter Try.func27, Try.ntmps27
  go_wp2_with fail
  obtain ⟨l1, hl1⟩ : ∃ wl, (((w.alloc (.cells #[.int .u8 1, .int .u8 2] 5)).alloc (.cells #[.slice (some ⟨w.heap.size, 0, none⟩) 2 2] 23)).alloc (.cells #[.int .u8 2, .int .u8 4] 5)) = wl := ⟨_, rfl⟩
  have HL := Lib.hid (lits_has w 2 2 [1, 2] [2, 4] _ _ _ rfl rfl (by decide) rfl rfl rfl (by decide) hl1)
  rw [hl1]
  clear hl1
  refine (has_mat HL.out.1 HL.out.2.1 (by omega) (by rw [k_cols.1]; omega)).mono ?_
  rw [k_has.1, k_has.2.1]
  rintro e w1 ⟨rfl, k1⟩
  have K1 := Lib.hid (HL.out.2.2.trans k1)
  clear k1 HL
  go_wp2_with fail
  obtain ⟨l2, hl2⟩ : ∃ wl, (((w1.alloc (.cells #[.int .u8 1, .int .u8 2] 5)).alloc (.cells #[.slice (some ⟨w1.heap.size, 0, none⟩) 2 2] 23)).alloc (.cells #[.int .u8 1, .int .u8 1] 5)) = wl := ⟨_, rfl⟩
  have HL := Lib.hid (lits_has w1 2 2 [1, 2] [1, 1] _ _ _ rfl rfl (by decide) rfl rfl rfl (by decide) hl2)
  rw [hl2]
  clear hl2
  refine (has_mat HL.out.1 HL.out.2.1 (by omega) (by rw [k_cols.2.1]; omega)).mono ?_
  rw [k_has.2.2.1, k_has.2.2.2.1]
  rintro e w2 ⟨rfl, k2⟩
  have K2 := Lib.hid (K1.out.trans (HL.out.2.2.trans k2))
  clear k2 HL K1
  go_wp2_with fail
  obtain ⟨l3, hl3⟩ : ∃ wl, (w2.alloc (.cells #[.int .u8 0, .int .u8 0] 5)) = wl := ⟨_, rfl⟩
  have HL := Lib.hid (lits_row w2 2 [0, 0] _ rfl rfl (by decide) hl3)
  rw [hl3]
  clear hl3
  refine (has_mat (mat_none l3) HL.out.1 (by omega) (by rw [k_cols.2.2.1]; omega)).mono ?_
  rw [k_has.2.2.2.2.1, k_has.2.2.2.2.2]
  rintro e w3 ⟨rfl, k3⟩
  have K3 := Lib.hid (K2.out.trans (HL.out.2.trans k3))
  clear k3 HL K2
  go_wp2_with fail
  obtain ⟨l4, hl4⟩ : ∃ wl, ((((((w3.alloc (.cells #[.int .u8 1, .int .u8 0, .int .u8 0] 5)).alloc (.cells #[.int .u8 0, .int .u8 1, .int .u8 0] 5)).alloc (.cells #[.slice (some ⟨w3.heap.size, 0, none⟩) 3 3, .slice (some ⟨w3.heap.size + 1, 0, none⟩) 3 3] 23)).alloc (.cells #[.int .u8 0, .int .u8 1, .int .u8 0] 5)).alloc (.cells #[.int .u8 0, .int .u8 0, .int .u8 1] 5)).alloc (.cells #[.slice (some ⟨w3.heap.size + 1 + 1 + 1, 0, none⟩) 3 3, .slice (some ⟨w3.heap.size + 1 + 1 + 1 + 1, 0, none⟩) 3 3] 23)) = wl := ⟨_, rfl⟩
  have HL := Lib.hid (lits_22 w3 3 3 3 3 [1, 0, 0] [0, 1, 0] [0, 1, 0] [0, 0, 1] _ _ _ _ _ _ rfl rfl (by decide) rfl rfl (by decide) rfl rfl rfl (by decide) rfl rfl (by decide) rfl hl4)
  rw [hl4]
  clear hl4
  refine (meet_mat HL.out.1 HL.out.2.1 (by omega) (by omega) (by rw [k_cols.2.2.2.1]; omega)).mono ?_
  rw [k_meet.1, k_meet.2]
  rintro e w4 ⟨A4, n4, c4, rfl, m4, k4⟩
  have K4 := Lib.hid (K3.out.trans (HL.out.2.2.trans k4))
  have hn4 := m4.len
  have hn4 : 1 = n4 := hn4
  subst hn4
  have M4 := Lib.hid m4
  clear k4 HL K3 m4
  go_wp2_with fail
  obtain ⟨l5, hl5⟩ : ∃ wl, (((((w4.alloc (.cells #[.int .u8 1, .int .u8 1] 5)).alloc (.cells #[.int .u8 0, .int .u8 1] 5)).alloc (.cells #[.slice (some ⟨w4.heap.size, 0, none⟩) 2 2, .slice (some ⟨w4.heap.size + 1, 0, none⟩) 2 2] 23)).alloc (.cells #[.int .u8 1, .int .u8 1] 5)).alloc (.cells #[.slice (some ⟨w4.heap.size + 1 + 1 + 1, 0, none⟩) 2 2] 23)) = wl := ⟨_, rfl⟩
  have HL := Lib.hid (lits_21 w4 2 2 2 [1, 1] [0, 1] [1, 1] _ _ _ _ _ rfl rfl (by decide) rfl rfl (by decide) rfl rfl rfl (by decide) rfl hl5)
  rw [hl5]
  clear hl5
  refine (witness_mat HL.out.1 HL.out.2.1 (by omega) (by omega) (by rw [k_cols.2.2.2.2]; omega)).mono ?_
  unfold NewWit
  rw [k_wit.1, k_wit.2.1, k_wit.2.2]
  rintro e w5 ⟨A5, n5, c5, rfl, o5, k5⟩
  have K5 := Lib.hid (K4.out.trans (HL.out.2.2.trans k5))
  obtain ⟨b, off, Ay, cy, rfl, hb, hc, hby, _, _⟩ := (M4.out.keep (HL.out.2.2.trans k5)).row_at (r := 1) (k := 3) ⟨rfl, fun r hr => by rw [List.mem_singleton.1 hr]; decide⟩ (i := 0) (by omega)
  rw [Nat.add_zero] at hc
  have hst := run_str hby Try.underlying23 Try.underlying5 Try.underlying9 cy
  have hst5 := run_str o5.bytes Try.underlying23 Try.underlying5 Try.underlying9 c5
  have q1 : strN ([[0, 1, 0]].getD 0 []) = ⟨#[0, 1, 0]⟩ := rfl
  have q2 : strN [0, 1] = ⟨#[0, 1]⟩ := rfl
  rw [q1] at hst
  rw [q2] at hst5
  have z1 : ((⟨#[0, 1, 0]⟩ : ByteArray).toList == (⟨#[0, 1, 0]⟩ : ByteArray).toList) = true := beq_self_eq_true _
  have z2 : ((⟨#[0, 1]⟩ : ByteArray).toList == (⟨#[0, 1]⟩ : ByteArray).toList) = true := beq_self_eq_true _
  clear k5 HL K4 M4 hby o5 q1 q2
  go_wp2_with fail
  go_ret
  exact ⟨rfl, K5.out⟩
end Go.Proofs.Ytofhdaeeiienfaa
