/- The landed frames: slices.Equal at ranks, edges, marks; EqualFunc at lists of edges. -/
import Derived.Test.YtifopodnceopjaaGreatDoorQai
import Derived.Test.YtifopodnceopjaaGreatDoorQaj
namespace Go.Proofs.YtifopodnceopjaaGreatDoor
open Go.RowKit Fr
set_option linter.unusedVariables false
set_option linter.unusedSimpArgs false
theorem opt_ne {α : Type} {l l' : List α} {i : Nat} {a b : α} (h : l[i]? = some a) (h' : l'[i]? = some b) (hn : a ≠ b) : l ≠ l' := fun e => hn (by rw [e, h'] at h; injection h with h; exact h.symm)
set_option maxRecDepth 100000 in
set_option maxHeartbeats 4000000 in
theorem gsl_ranks (B B' n m c c' : Nat) (A A' : Option Addr) (l l' : List (Nat × Int)) (w : World) (h : RanksAt w B A n l) (h' : RanksAt w B' A' m l') (hB : B ≤ w.heap.size) (hB' : B' ≤ w.heap.size) (hn : n ≤ 140737488351232) (hm : m ≤ 140737488351232) :
    Calls Tryz.prog 37 #[.slice A n c, .slice A' m c'] w fun e w' => e = .returned (.bool (decide (l = l'))) ∧ ∃ q, w' = w.drewN q := by
  have l1 := h.length
  have l2 := h'.length
  have H := Lib.hid h
  have H' := Lib.hid h'
  clear h h'
  by_cases hlen : n = m
  · subst hlen
    have b0 : ((n : Int) != (n : Int)) = false := by simp
    go_enter Tryz.func37, Tryz.ntmps37
    go_wp2_with fail
    go_loopw [13] (fun iv wr => ∃ i : Nat, i ≤ n ∧ iv = .int .i64 i ∧ (∃ q, wr = w.drewN q) ∧ ∀ j, j < i → l[j]? = l'[j]?) (fun iv _ => n - (intOf iv).toNat)
    case atStart => exact ⟨0, by omega, rfl, ⟨0, rfl⟩, fun j hj => by omega⟩
    case round =>
      obtain ⟨i, hi, rfl, ⟨q0, rfl⟩, hz⟩ := hrel
      have HZ := Lib.hid hz
      clear hz
      have f1 : (0 : Int) ≤ (i : Int) := Int.natCast_nonneg _
      by_cases hlt : i < n
      · have f2 : (i : Int) < (n : Int) := by omega
        obtain ⟨⟨ea, eb⟩, he⟩ := get_some l1 hlt
        obtain ⟨⟨ea', eb'⟩, he'⟩ := get_some l2 hlt
        obtain ⟨p, o, rfl, _, s1, s2⟩ := (H.out.keep hB ((Keep.refl w).drewN q0)).at_ he
        obtain ⟨p', o', rfl, _, s1', s2'⟩ := (H'.out.keep hB' ((Keep.refl w).drewN q0)).at_ he'
        dsimp only at s1 s2 s1' s2'
        have R1 := Lib.hid (range_two s1 s2)
        have R2 := Lib.hid (range_two s1' s2')
        clear s1 s2 s1' s2'
        by_cases e1 : ea = ea'
        · subst e1
          by_cases e2 : eb = eb'
          · subst e2
            have HS : Hid (∀ j, j < i + 1 → l[j]? = l'[j]?) := fun j hj => by
              rcases Nat.lt_or_ge j i with h1 | h1
              · exact HZ.out j h1
              · obtain rfl : j = i := by omega
                rw [he, he']
            clear he he'
            go_wp2_with fail
            refine wp_region_quiet_lit (by kernel_rfl) (by kernel_rfl) ?_
            iterate 3 go_big_quiet_step (fail)
            refine BigFrame.wpQuiet_want (by rfl) ?_
            intro K hK
            refine quiet_load_mid _ _ rfl p (o + i * 2) ?hx [.int .u64 (ea : Int), .int .i64 eb] _ (fun w' hw' => by obtain ⟨n', rfl⟩ := hw'; exact range_drewN R1.out n') Tryz.underlying93 rfl (by kernel_rfl) ?_
            case hx => rfl
            simp only [Act.put, List.setIfInBounds_toArray, List.set_cons_zero, List.set_cons_succ]
            go_big_quiet_on
            iterate 3 go_big_quiet_step (fail)
            refine BigFrame.wpQuiet_want (by rfl) ?_
            intro K hK
            refine quiet_load_mid _ _ rfl p' (o' + i * 2) ?hx [.int .u64 (ea : Int), .int .i64 eb] _ (fun w' hw' => by obtain ⟨n', rfl⟩ := hw'; exact range_drewN R2.out n') Tryz.underlying93 rfl (by kernel_rfl) ?_
            case hx => rfl
            simp only [Act.put, List.setIfInBounds_toArray, List.set_cons_zero, List.set_cons_succ]
            go_big_quiet_on
            go_big_quiet_step (fail)
            refine wpQuiet_nil ?_
            intro _ hw'
            obtain ⟨nq, rfl⟩ := hw'
            go_wp2_with fail
            go_roundw
            case rel => exact ⟨i + 1, by omega, by go_num, (by first | exact ⟨_, rfl⟩ | exact ⟨_, World.drewN_drewN ..⟩), HS.out⟩
            case measure => simp [intOf]; omega
          · have HN : Hid (decide (l = l') = false) := decide_eq_false (opt_ne he he' (fun e => e2 (by injection e)))
            clear he he'
            go_wp2_with fail
            refine wp_region_quiet_lit (by kernel_rfl) (by kernel_rfl) ?_
            iterate 3 go_big_quiet_step (fail)
            refine BigFrame.wpQuiet_want (by rfl) ?_
            intro K hK
            refine quiet_load_mid _ _ rfl p (o + i * 2) ?hx [.int .u64 (ea : Int), .int .i64 eb] _ (fun w' hw' => by obtain ⟨n', rfl⟩ := hw'; exact range_drewN R1.out n') Tryz.underlying93 rfl (by kernel_rfl) ?_
            case hx => rfl
            simp only [Act.put, List.setIfInBounds_toArray, List.set_cons_zero, List.set_cons_succ]
            go_big_quiet_on
            iterate 3 go_big_quiet_step (fail)
            refine BigFrame.wpQuiet_want (by rfl) ?_
            intro K hK
            refine quiet_load_mid _ _ rfl p' (o' + i * 2) ?hx [.int .u64 (ea : Int), .int .i64 eb'] _ (fun w' hw' => by obtain ⟨n', rfl⟩ := hw'; exact range_drewN R2.out n') Tryz.underlying93 rfl (by kernel_rfl) ?_
            case hx => rfl
            simp only [Act.put, List.setIfInBounds_toArray, List.set_cons_zero, List.set_cons_succ]
            go_big_quiet_on
            go_big_quiet_step (fail)
            refine wpQuiet_nil ?_
            intro _ hw'
            obtain ⟨nq, rfl⟩ := hw'
            go_wp2_with fail
            go_ret
            exact ⟨by rw [HN.out]; rfl, (by first | exact ⟨_, rfl⟩ | exact ⟨_, World.drewN_drewN ..⟩)⟩
        · have ne : (((ea : Int) : Int) = ((ea' : Int) : Int)) = False := eq_false (by omega)
          have HN : Hid (decide (l = l') = false) := decide_eq_false (opt_ne he he' (fun e => e1 (by injection e)))
          clear he he'
          go_wp2_with fail
          refine wp_region_quiet_lit (by kernel_rfl) (by kernel_rfl) ?_
          iterate 3 go_big_quiet_step (fail)
          refine BigFrame.wpQuiet_want (by rfl) ?_
          intro K hK
          refine quiet_load_mid _ _ rfl p (o + i * 2) ?hx [.int .u64 (ea : Int), .int .i64 eb] _ (fun w' hw' => by obtain ⟨n', rfl⟩ := hw'; exact range_drewN R1.out n') Tryz.underlying93 rfl (by kernel_rfl) ?_
          case hx => rfl
          simp only [Act.put, List.setIfInBounds_toArray, List.set_cons_zero, List.set_cons_succ]
          go_big_quiet_on
          iterate 3 go_big_quiet_step (fail)
          refine BigFrame.wpQuiet_want (by rfl) ?_
          intro K hK
          refine quiet_load_mid _ _ rfl p' (o' + i * 2) ?hx [.int .u64 (ea' : Int), .int .i64 eb'] _ (fun w' hw' => by obtain ⟨n', rfl⟩ := hw'; exact range_drewN R2.out n') Tryz.underlying93 rfl (by kernel_rfl) ?_
          case hx => rfl
          simp only [Act.put, List.setIfInBounds_toArray, List.set_cons_zero, List.set_cons_succ]
          go_big_quiet_on
          go_big_quiet_step (fail)
          refine wpQuiet_nil ?_
          intro _ hw'
          obtain ⟨nq, rfl⟩ := hw'
          go_wp2_with fail
          go_ret
          exact ⟨by rw [HN.out]; rfl, (by first | exact ⟨_, rfl⟩ | exact ⟨_, World.drewN_drewN ..⟩)⟩
      · obtain rfl : i = n := by omega
        have HY : Hid (decide (l = l') = true) := decide_eq_true (list_eq l1 l2 HZ.out)
        go_wp2_with fail
        go_ret
        exact ⟨by rw [HY.out]; rfl, _, rfl⟩
  · have b0 : ((n : Int) != (m : Int)) = true := by rw [bne_iff_ne]; omega
    have HC : Hid (decide (l = l') = false) := decide_eq_false (fun e => hlen (by rw [← l1, ← l2, e]))
    clear l1 l2 hlen
    go_enter Tryz.func37, Tryz.ntmps37
    go_wp2_with fail
    go_ret
    exact ⟨by rw [HC.out]; rfl, 0, rfl⟩
set_option maxRecDepth 100000 in
set_option maxHeartbeats 4000000 in
theorem gsl_edges (B B' n m c c' : Nat) (A A' : Option Addr) (l l' : List (Int × Int)) (w : World) (h : EdgesAt w B A n l) (h' : EdgesAt w B' A' m l') (hB : B ≤ w.heap.size) (hB' : B' ≤ w.heap.size) (hn : n ≤ 140737488351232) (hm : m ≤ 140737488351232) :
    Calls Tryz.prog 40 #[.slice A n c, .slice A' m c'] w fun e w' => e = .returned (.bool (decide (l = l'))) ∧ ∃ q, w' = w.drewN q := by
  have l1 := h.length
  have l2 := h'.length
  have H := Lib.hid h
  have H' := Lib.hid h'
  clear h h'
  by_cases hlen : n = m
  · subst hlen
    have b0 : ((n : Int) != (n : Int)) = false := by simp
    go_enter Tryz.func40, Tryz.ntmps40
    go_wp2_with fail
    go_loopw [13] (fun iv wr => ∃ i : Nat, i ≤ n ∧ iv = .int .i64 i ∧ (∃ q, wr = w.drewN q) ∧ ∀ j, j < i → l[j]? = l'[j]?) (fun iv _ => n - (intOf iv).toNat)
    case atStart => exact ⟨0, by omega, rfl, ⟨0, rfl⟩, fun j hj => by omega⟩
    case round =>
      obtain ⟨i, hi, rfl, ⟨q0, rfl⟩, hz⟩ := hrel
      have HZ := Lib.hid hz
      clear hz
      have f1 : (0 : Int) ≤ (i : Int) := Int.natCast_nonneg _
      by_cases hlt : i < n
      · have f2 : (i : Int) < (n : Int) := by omega
        obtain ⟨⟨ea, eb⟩, he⟩ := get_some l1 hlt
        obtain ⟨⟨ea', eb'⟩, he'⟩ := get_some l2 hlt
        obtain ⟨p, o, rfl, _, s1, s2⟩ := (H.out.keep hB ((Keep.refl w).drewN q0)).at_ he
        obtain ⟨p', o', rfl, _, s1', s2'⟩ := (H'.out.keep hB' ((Keep.refl w).drewN q0)).at_ he'
        dsimp only at s1 s2 s1' s2'
        have R1 := Lib.hid (range_two s1 s2)
        have R2 := Lib.hid (range_two s1' s2')
        clear s1 s2 s1' s2'
        by_cases e1 : ea = ea'
        · subst e1
          by_cases e2 : eb = eb'
          · subst e2
            have HS : Hid (∀ j, j < i + 1 → l[j]? = l'[j]?) := fun j hj => by
              rcases Nat.lt_or_ge j i with h1 | h1
              · exact HZ.out j h1
              · obtain rfl : j = i := by omega
                rw [he, he']
            clear he he'
            go_wp2_with fail
            refine wp_region_quiet_lit (by kernel_rfl) (by kernel_rfl) ?_
            iterate 3 go_big_quiet_step (fail)
            refine BigFrame.wpQuiet_want (by rfl) ?_
            intro K hK
            refine quiet_load_mid _ _ rfl p (o + i * 2) ?hx [.int .i64 ea, .int .i64 eb] _ (fun w' hw' => by obtain ⟨n', rfl⟩ := hw'; exact range_drewN R1.out n') Tryz.underlying99 rfl (by kernel_rfl) ?_
            case hx => rfl
            simp only [Act.put, List.setIfInBounds_toArray, List.set_cons_zero, List.set_cons_succ]
            go_big_quiet_on
            iterate 3 go_big_quiet_step (fail)
            refine BigFrame.wpQuiet_want (by rfl) ?_
            intro K hK
            refine quiet_load_mid _ _ rfl p' (o' + i * 2) ?hx [.int .i64 ea, .int .i64 eb] _ (fun w' hw' => by obtain ⟨n', rfl⟩ := hw'; exact range_drewN R2.out n') Tryz.underlying99 rfl (by kernel_rfl) ?_
            case hx => rfl
            simp only [Act.put, List.setIfInBounds_toArray, List.set_cons_zero, List.set_cons_succ]
            go_big_quiet_on
            go_big_quiet_step (fail)
            refine wpQuiet_nil ?_
            intro _ hw'
            obtain ⟨nq, rfl⟩ := hw'
            go_wp2_with fail
            go_roundw
            case rel => exact ⟨i + 1, by omega, by go_num, (by first | exact ⟨_, rfl⟩ | exact ⟨_, World.drewN_drewN ..⟩), HS.out⟩
            case measure => simp [intOf]; omega
          · have HN : Hid (decide (l = l') = false) := decide_eq_false (opt_ne he he' (fun e => e2 (by injection e)))
            clear he he'
            go_wp2_with fail
            refine wp_region_quiet_lit (by kernel_rfl) (by kernel_rfl) ?_
            iterate 3 go_big_quiet_step (fail)
            refine BigFrame.wpQuiet_want (by rfl) ?_
            intro K hK
            refine quiet_load_mid _ _ rfl p (o + i * 2) ?hx [.int .i64 ea, .int .i64 eb] _ (fun w' hw' => by obtain ⟨n', rfl⟩ := hw'; exact range_drewN R1.out n') Tryz.underlying99 rfl (by kernel_rfl) ?_
            case hx => rfl
            simp only [Act.put, List.setIfInBounds_toArray, List.set_cons_zero, List.set_cons_succ]
            go_big_quiet_on
            iterate 3 go_big_quiet_step (fail)
            refine BigFrame.wpQuiet_want (by rfl) ?_
            intro K hK
            refine quiet_load_mid _ _ rfl p' (o' + i * 2) ?hx [.int .i64 ea, .int .i64 eb'] _ (fun w' hw' => by obtain ⟨n', rfl⟩ := hw'; exact range_drewN R2.out n') Tryz.underlying99 rfl (by kernel_rfl) ?_
            case hx => rfl
            simp only [Act.put, List.setIfInBounds_toArray, List.set_cons_zero, List.set_cons_succ]
            go_big_quiet_on
            go_big_quiet_step (fail)
            refine wpQuiet_nil ?_
            intro _ hw'
            obtain ⟨nq, rfl⟩ := hw'
            go_wp2_with fail
            go_ret
            exact ⟨by rw [HN.out]; rfl, (by first | exact ⟨_, rfl⟩ | exact ⟨_, World.drewN_drewN ..⟩)⟩
        · have ne : ((ea : Int) = (ea' : Int)) = False := eq_false (by omega)
          have HN : Hid (decide (l = l') = false) := decide_eq_false (opt_ne he he' (fun e => e1 (by injection e)))
          clear he he'
          go_wp2_with fail
          refine wp_region_quiet_lit (by kernel_rfl) (by kernel_rfl) ?_
          iterate 3 go_big_quiet_step (fail)
          refine BigFrame.wpQuiet_want (by rfl) ?_
          intro K hK
          refine quiet_load_mid _ _ rfl p (o + i * 2) ?hx [.int .i64 ea, .int .i64 eb] _ (fun w' hw' => by obtain ⟨n', rfl⟩ := hw'; exact range_drewN R1.out n') Tryz.underlying99 rfl (by kernel_rfl) ?_
          case hx => rfl
          simp only [Act.put, List.setIfInBounds_toArray, List.set_cons_zero, List.set_cons_succ]
          go_big_quiet_on
          iterate 3 go_big_quiet_step (fail)
          refine BigFrame.wpQuiet_want (by rfl) ?_
          intro K hK
          refine quiet_load_mid _ _ rfl p' (o' + i * 2) ?hx [.int .i64 ea', .int .i64 eb'] _ (fun w' hw' => by obtain ⟨n', rfl⟩ := hw'; exact range_drewN R2.out n') Tryz.underlying99 rfl (by kernel_rfl) ?_
          case hx => rfl
          simp only [Act.put, List.setIfInBounds_toArray, List.set_cons_zero, List.set_cons_succ]
          go_big_quiet_on
          go_big_quiet_step (fail)
          refine wpQuiet_nil ?_
          intro _ hw'
          obtain ⟨nq, rfl⟩ := hw'
          go_wp2_with fail
          go_ret
          exact ⟨by rw [HN.out]; rfl, (by first | exact ⟨_, rfl⟩ | exact ⟨_, World.drewN_drewN ..⟩)⟩
      · obtain rfl : i = n := by omega
        have HY : Hid (decide (l = l') = true) := decide_eq_true (list_eq l1 l2 HZ.out)
        go_wp2_with fail
        go_ret
        exact ⟨by rw [HY.out]; rfl, _, rfl⟩
  · have b0 : ((n : Int) != (m : Int)) = true := by rw [bne_iff_ne]; omega
    have HC : Hid (decide (l = l') = false) := decide_eq_false (fun e => hlen (by rw [← l1, ← l2, e]))
    clear l1 l2 hlen
    go_enter Tryz.func40, Tryz.ntmps40
    go_wp2_with fail
    go_ret
    exact ⟨by rw [HC.out]; rfl, 0, rfl⟩
set_option maxRecDepth 100000 in
set_option maxHeartbeats 4000000 in
theorem gsl_ups (B B' n m c c' : Nat) (A A' : Option Addr) (l l' : List Bool) (w : World) (h : UpsAt w B A n l) (h' : UpsAt w B' A' m l') (hB : B ≤ w.heap.size) (hB' : B' ≤ w.heap.size) (hn : n ≤ 140737488351232) (hm : m ≤ 140737488351232) :
    Calls Tryz.prog 38 #[.slice A n c, .slice A' m c'] w fun e w' => e = .returned (.bool (decide (l = l'))) ∧ ∃ q, w' = w.drewN q := by
  have l1 := h.length
  have l2 := h'.length
  have H := Lib.hid h
  have H' := Lib.hid h'
  clear h h'
  by_cases hlen : n = m
  · subst hlen
    have b0 : ((n : Int) != (n : Int)) = false := by simp
    go_enter Tryz.func38, Tryz.ntmps38
    go_wp2_with fail
    go_loopw [13] (fun iv wr => ∃ i : Nat, i ≤ n ∧ iv = .int .i64 i ∧ (∃ q, wr = w.drewN q) ∧ ∀ j, j < i → l[j]? = l'[j]?) (fun iv _ => n - (intOf iv).toNat)
    case atStart => exact ⟨0, by omega, rfl, ⟨0, rfl⟩, fun j hj => by omega⟩
    case round =>
      obtain ⟨i, hi, rfl, ⟨q0, rfl⟩, hz⟩ := hrel
      have HZ := Lib.hid hz
      clear hz
      have f1 : (0 : Int) ≤ (i : Int) := Int.natCast_nonneg _
      by_cases hlt : i < n
      · have f2 : (i : Int) < (n : Int) := by omega
        obtain ⟨a, he⟩ := get_some l1 hlt
        obtain ⟨a', he'⟩ := get_some l2 hlt
        obtain ⟨p, o, rfl, _, s1⟩ := H.out.at_ he
        obtain ⟨p', o', rfl, _, s1'⟩ := H'.out.at_ he'
        by_cases e1 : a = a'
        · subst e1
          have HS : Hid (∀ j, j < i + 1 → l[j]? = l'[j]?) := fun j hj => by
            rcases Nat.lt_or_ge j i with h1 | h1
            · exact HZ.out j h1
            · obtain rfl : j = i := by omega
              rw [he, he']
          have bd : (a != a) = false := by cases a <;> rfl
          clear he he'
          go_wp2_with fail
          go_quiet (fail)
          go_wp2_with fail
          go_roundw
          case rel => exact ⟨i + 1, by omega, by go_num, (by first | exact ⟨_, rfl⟩ | exact ⟨_, World.drewN_drewN ..⟩), HS.out⟩
          case measure => simp [intOf]; omega
        · have HN : Hid (decide (l = l') = false) := decide_eq_false (opt_ne he he' e1)
          clear he he'
          cases a with
          | true =>
            cases a' with
            | true => exact absurd rfl e1
            | false =>
              clear e1
              go_wp2_with fail
              go_quiet (fail)
              go_wp2_with fail
              go_ret
              exact ⟨by rw [HN.out]; rfl, (by first | exact ⟨_, rfl⟩ | exact ⟨_, World.drewN_drewN ..⟩)⟩
          | false =>
            cases a' with
            | false => exact absurd rfl e1
            | true =>
              clear e1
              go_wp2_with fail
              go_quiet (fail)
              go_wp2_with fail
              go_ret
              exact ⟨by rw [HN.out]; rfl, (by first | exact ⟨_, rfl⟩ | exact ⟨_, World.drewN_drewN ..⟩)⟩
      · obtain rfl : i = n := by omega
        have HY : Hid (decide (l = l') = true) := decide_eq_true (list_eq l1 l2 HZ.out)
        go_wp2_with fail
        go_ret
        exact ⟨by rw [HY.out]; rfl, _, rfl⟩
  · have b0 : ((n : Int) != (m : Int)) = true := by rw [bne_iff_ne]; omega
    have HC : Hid (decide (l = l') = false) := decide_eq_false (fun e => hlen (by rw [← l1, ← l2, e]))
    clear l1 l2 hlen
    go_enter Tryz.func38, Tryz.ntmps38
    go_wp2_with fail
    go_ret
    exact ⟨by rw [HC.out]; rfl, 0, rfl⟩
set_option maxRecDepth 100000 in
set_option maxHeartbeats 4000000 in
theorem gsl_hops (B B' n m c c' : Nat) (A A' : Option Addr) (l l' : List (List (Int × Int))) (w : World) (h : HopsAt w B A n l) (h' : HopsAt w B' A' m l') (hB : B ≤ w.heap.size) (hB' : B' ≤ w.heap.size) (hn : n ≤ 140737488351232) (hm : m ≤ 140737488351232) :
    Calls Tryz.prog 39 #[.slice A n c, .slice A' m c', .func (.func 40) #[] #[]] w fun e w' => e = .returned (.bool (decide (l = l'))) ∧ ∃ q, w' = w.drewN q := by
  have l1 := h.length
  have l2 := h'.length
  have H := Lib.hid h
  have H' := Lib.hid h'
  clear h h'
  by_cases hlen : n = m
  · subst hlen
    have b0 : ((n : Int) != (n : Int)) = false := by simp
    go_enter Tryz.func39, Tryz.ntmps39
    go_wp2_with fail
    go_loopw [17] (fun iv wr => ∃ i : Nat, i ≤ n ∧ iv = .int .i64 i ∧ (∃ q, wr = w.drewN q) ∧ ∀ j, j < i → l[j]? = l'[j]?) (fun iv _ => n - (intOf iv).toNat)
    case atStart => exact ⟨0, by omega, rfl, ⟨0, rfl⟩, fun j hj => by omega⟩
    case round =>
      obtain ⟨i, hi, rfl, ⟨q0, rfl⟩, hz⟩ := hrel
      have HZ := Lib.hid hz
      clear hz
      have f1 : (0 : Int) ≤ (i : Int) := Int.natCast_nonneg _
      by_cases hlt : i < n
      · have f2 : (i : Int) < (n : Int) := by omega
        obtain ⟨r, he⟩ := get_some l1 hlt
        obtain ⟨r', he'⟩ := get_some l2 hlt
        obtain ⟨p, o, ⟨As, ns, cs⟩, rfl, _, s1, s2, s3, s4⟩ := (H.out.keep hB ((Keep.refl w).drewN q0)).at_ he
        obtain ⟨p', o', ⟨As', ns', cs'⟩, rfl, _, s1', s2', s3', s4'⟩ := (H'.out.keep hB' ((Keep.refl w).drewN q0)).at_ he'
        dsimp only at s1 s2 s3 s4 s1' s2' s3' s4'
        have HQ := Lib.hid (gsl_edges B B' ns ns' cs cs' As As' r r' (w.drewN q0) s2 s2' hB hB' s3 s3')
        clear s2 s2'
        by_cases e1 : r = r'
        · have HS : Hid (∀ j, j < i + 1 → l[j]? = l'[j]?) := fun j hj => by
            rcases Nat.lt_or_ge j i with h1 | h1
            · exact HZ.out j h1
            · obtain rfl : j = i := by omega
              rw [he, he', e1]
          rw [decide_eq_true e1] at HQ
          clear he he' e1
          go_wp2_with fail
          refine HQ.out.mono ?_
          rintro e w2 ⟨rfl, q2, rfl⟩
          go_wp2_with fail
          go_roundw
          case rel => exact ⟨i + 1, by omega, by go_num, (by first | exact ⟨_, rfl⟩ | exact ⟨_, World.drewN_drewN ..⟩), HS.out⟩
          case measure => simp [intOf]; omega
        · have HN : Hid (decide (l = l') = false) := decide_eq_false (opt_ne he he' e1)
          rw [decide_eq_false e1] at HQ
          clear he he' e1
          go_wp2_with fail
          refine HQ.out.mono ?_
          rintro e w2 ⟨rfl, q2, rfl⟩
          go_wp2_with fail
          go_ret
          exact ⟨by rw [HN.out]; rfl, (by first | exact ⟨_, rfl⟩ | exact ⟨_, World.drewN_drewN ..⟩)⟩
      · obtain rfl : i = n := by omega
        have HY : Hid (decide (l = l') = true) := decide_eq_true (list_eq l1 l2 HZ.out)
        go_wp2_with fail
        go_ret
        exact ⟨by rw [HY.out]; rfl, _, rfl⟩
  · have b0 : ((n : Int) != (m : Int)) = true := by rw [bne_iff_ne]; omega
    have HC : Hid (decide (l = l') = false) := decide_eq_false (fun e => hlen (by rw [← l1, ← l2, e]))
    clear l1 l2 hlen
    go_enter Tryz.func39, Tryz.ntmps39
    go_wp2_with fail
    go_ret
    exact ⟨by rw [HC.out]; rfl, 0, rfl⟩
end Go.Proofs.YtifopodnceopjaaGreatDoor
