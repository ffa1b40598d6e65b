/- Both sources: made anew and restored; what the examples say. -/
import Derived.Test.YtcafofffgmaepaaSR
import Derived.Test.YtcafofffgmaepaaBC
import Derived.Test.YtcafofffgmaepaaPf1
namespace Go.Proofs.Ytcafofffgmaepaa
open Go.RowKit
set_option linter.unusedVariables false
set_option linter.unusedSimpArgs false
theorem gens_bare {room : Nat} (h1 : 1 ≤ room) : gensN room [] [] = [] ∧ openN room [] [] = [] ∧ fromN room [] [] = 0 := by
  have e : chunkN room [] [] (([] : List Nat).length + 1) = ([], 0) := by
    show chunkN room [] [] (0 + 1) = _
    rw [chunkN_succ]
    refine if_neg ?_
    rintro (e | ⟨e, _⟩)
    · have e : 0 - 0 = room := e
      omega
    · have e : (0 : Nat) < 0 := e
      omega
  exact ⟨by rw [gensN, e], by rw [openN, fromN, e]; rfl, by rw [fromN, e]⟩
theorem GoodS.start {g s P : Nat} (hz : SizeS g s P) : GoodS g s P [] [] [] :=
  ⟨hz, fun c h => by simp at h, fun i j x y _ h => by simp at h, (gens_bare (by have := hz.lo; omega)).1.symm, by decide⟩
theorem GoodS.sub {g s P : Nat} {xs cs : List Nat} {M : List (List Nat)} (h : GoodS g s P xs cs M) (cl : Bool) (ys : List Nat) (most : Nat) : GoodS g s P (subX P cl xs cs ys most) cs (gensN (P - 4) cs (subX P cl xs cs ys most)) := by
  by_cases he : subE P cl xs cs ys most = 0
  · rw [subX, if_pos he]
    refine h.more ys ?_
    rw [subE] at he
    by_cases hc : cl = true
    · rw [if_pos hc] at he; cases he
    · rw [if_neg hc] at he
      by_cases hb : 262144 < xs.length + ys.length ∨ most < wouldN (P - 4) cs (xs ++ ys)
      · rw [if_pos hb] at he; cases he
      · omega
  · rw [subX, if_neg he, ← h.gens]; exact h
section
variable {w : World}
set_option maxHeartbeats 1000000 in
theorem new_good (G S P : Nat) (hz : SizeS G S P) (w : World) : Calls Try.prog 9 #[.int .i64 (G : Int), .int .i64 (S : Int)] w fun e w' => ∃ b F, e = .returned (.tuple #[.pointer (some ⟨b, 0, none⟩), .int .i64 0]) ∧ SrcR w' F b G S [] [] [] false ∧ (∀ i, F i → w.heap.size ≤ i) ∧ Keep w w' := by
  have hc := gens_bare (room := P - 4) (by have := hz.lo; omega)
  have HR := Lib.hid (restore_good (w := w) (cl := false) G S P hz 0 0 0 0 w.heap.size w.heap.size none none [] [] [] [] 0 (Nat.le_refl _) (Nat.le_refl _) (Bytes.nil _ _ _) ⟨rfl, fun h => absurd h (by omega)⟩ (by omega) (by decide) (by decide) (fun _ w' k => by
    have := pchunks_in G S P 0 0 hz.g0 hz.g1 hz.s0 hz.s1 hz.int hz.lo hz.hi (by omega) (by omega) none none 0 0 [] [] w' (Bytes.nil _ _ _) (Nat.le_refl _) ⟨rfl, fun h => absurd h (by omega)⟩ (fun x hx => by simp at hx) (fun i j x y _ h => by simp at h)
    have e1 : (chunkN (P - 4) [] [] (0 + 1)).1 = [] := hc.1
    have e2 : ([] : List Nat).drop (chunkN (P - 4) [] [] (0 + 1)).2 = [] := by simp
    rwa [e1, e2] at this) (by decide) (by omega))
  clear hz hc
  go_enter Try.func9, Try.ntmps9
  go_wp2_with fail
  refine HR.out.mono ?_
  rintro e w1 ⟨b, F, rfl, h1, h2, h3⟩
  have H1 := Lib.hid h1
  have H2 := Lib.hid h2
  have H3 := Lib.hid h3
  clear h1 h2 h3 HR
  go_wp2_with fail
  go_ret2
  exact ⟨b, F, rfl, H1.out, H2.out, H3.out⟩
set_option maxHeartbeats 1000000 in
theorem new_bad (g s : Int) (hb : ¬ MayG g s) (w : World) : Calls Try.prog 9 #[.int .i64 g, .int .i64 s] w fun e w' => e = .returned (.tuple #[.pointer none, .int .i64 1]) ∧ Keep w w' := by
  have HR := Lib.hid (restore_bad (w := w) (cl := false) g s 0 0 0 0 none none [] [] 1 (fun _ w' k => pchunks_out g s hb none none 0 0 0 0 w') (by decide))
  rw [show restR 0 [] 1 false = 1 from rfl] at HR
  clear hb
  go_enter Try.func9, Try.ntmps9
  go_wp2_with fail
  refine HR.out.mono ?_
  rintro e w1 ⟨rfl, k⟩
  have K := Lib.hid k
  clear k
  go_wp2_with fail
  go_ret2
  exact ⟨rfl, K.out⟩
set_option maxHeartbeats 1000000 in
theorem rnew_good (G S P : Nat) (hz : SizeS G S P) (w : World) : Calls Try.prog 10 #[.int .i64 (G : Int), .int .i64 (S : Int)] w fun e w' => ∃ b E, e = .returned (.tuple #[.pointer (some ⟨b, 0, none⟩), .int .i64 0]) ∧ RefR w' E b G S [] [] false ∧ (∀ i, E i → w.heap.size ≤ i) ∧ Keep w w' := by
  have hc := gens_bare (room := P - 4) (by have := hz.lo; omega)
  have HR := Lib.hid (rrestore_good (w := w) G S 0 0 0 0 w.heap.size w.heap.size none none [] [] [] [] false (by omega) (Nat.le_refl _) (Nat.le_refl _) (Bytes.nil _ _ _) ⟨rfl, fun h => absurd h (by omega)⟩ (by omega) (fun w' k => by
    have := rchunks_in G S P 0 0 hz.g0 hz.g1 hz.s0 hz.s1 hz.int hz.lo hz.hi (by omega) (by omega) none none 0 0 [] [] w' (Bytes.nil _ _ _) (Nat.le_refl _) ⟨rfl, fun h => absurd h (by omega)⟩ (fun x hx => by simp at hx) (fun i j x y _ h => by simp at h)
    have e1 : (chunkN (P - 4) [] [] (0 + 1)).1 = [] := hc.1
    have e2 : ([] : List Nat).drop (chunkN (P - 4) [] [] (0 + 1)).2 = [] := by simp
    rwa [e1, e2] at this) (by simp))
  clear hz hc
  go_enter Try.func10, Try.ntmps10
  go_wp2_with fail
  refine HR.out.mono ?_
  rintro e w1 ⟨b, E, rfl, h1, h2, h3⟩
  have H1 := Lib.hid h1
  have H2 := Lib.hid h2
  have H3 := Lib.hid h3
  clear h1 h2 h3 HR
  go_wp2_with fail
  go_ret2
  exact ⟨b, E, rfl, H1.out, H2.out, H3.out⟩
/-- Restore, of both: the same. -/
theorem restore_told (g s : Int) (n m c c' : Nat) (A A' : Option Addr) (xs : List Nat) (l : List Int) (cl : Bool) (w : World) (hn : n ≤ 100000) (hm : m ≤ 1000000) (h : Bytes w w.heap.size A n xs) (hc : n ≤ c) (h' : IntsAt w w.heap.size A' m l) (hz : ∀ z ∈ l, -9223372036854775808 ≤ z ∧ z ≤ 9223372036854775807) :
    ((∀ w', Keep w w' → Calls Try.prog 11 #[.int .i64 g, .int .i64 s, .slice A n c, .slice A' m c', .bool cl] w' fun e w'' => e = .returned (.tuple #[.pointer none, .int .i64 1]) ∧ Keep w' w'') ∧
      (∀ w', Keep w w' → Calls Try.prog 12 #[.int .i64 g, .int .i64 s, .slice A n c, .slice A' m c', .bool cl] w' fun e w'' => e = .returned (.tuple #[.pointer none, .int .i64 1]) ∧ Keep w' w'')) ∨
    ∃ (G S P : Nat) (cs : List Nat), g = G ∧ s = S ∧ SizeS G S P ∧ GoodS G S P xs cs (gensN (P - 4) cs xs) ∧ l = cs.map (fun x : Nat => (x : Int)) ∧ (cl = true → openN (P - 4) cs xs = []) ∧
      (∀ w', Keep w w' → Calls Try.prog 11 #[.int .i64 g, .int .i64 s, .slice A n c, .slice A' m c', .bool cl] w' fun e w'' => ∃ b F, e = .returned (.tuple #[.pointer (some ⟨b, 0, none⟩), .int .i64 0]) ∧ SrcR w'' F b G S xs cs (gensN (P - 4) cs xs) cl ∧ (∀ i, F i → w'.heap.size ≤ i) ∧ Keep w' w'') ∧
      (∀ w', Keep w w' → Calls Try.prog 12 #[.int .i64 g, .int .i64 s, .slice A n c, .slice A' m c', .bool cl] w' fun e w'' => ∃ b E, e = .returned (.tuple #[.pointer (some ⟨b, 0, none⟩), .int .i64 0]) ∧ RefR w'' E b G S xs cs cl ∧ (∀ i, E i → w'.heap.size ≤ i) ∧ Keep w' w'') := by
  obtain ⟨M, O, er, ht, H1, H2⟩ := chunks_told g s n m hn (by omega) A A' c c' xs l w h hc h' hz
  have hxl := h.length
  rcases ht with ⟨_, rfl, rfl, rfl⟩ | ⟨G, S, P, cs, rfl, rfl, p1, p2, p3, hM, rfl, hle, hso, rfl, rfl, rfl⟩
  · left
    refine ⟨fun w' k => ?_, fun w' k => ?_⟩
    · have := restore_bad (w := w') (cl := cl) g s n c m c' A A' [] [] 1 (fun _ w2 k2 => H1 w2 (k.trans k2)) (by rw [restR, if_neg (by omega), if_neg (by decide)]; decide)
      rwa [show restR n [] 1 cl = 1 by rw [restR, if_neg (by omega), if_neg (by decide)]] at this
    · exact rrestore_bad g s n c m c' A A' [] [] 1 cl (by omega) (fun w2 k2 => H2 w2 (k.trans k2)) (Or.inl (by decide))
  · obtain ⟨G', S', P', e1, e2, hz'⟩ := hM.size
    obtain rfl : G = G' := by exact_mod_cast e1
    obtain rfl : S = S' := by exact_mod_cast e2
    obtain rfl : P = P' := by have := hz'.int; rw [p3] at this; exact_mod_cast this
    have hM1 : (chunkN (P - 4) cs xs (n + 1)).1 = gensN (P - 4) cs xs := by rw [gensN, hxl]
    have hO1 : xs.drop (chunkN (P - 4) cs xs (n + 1)).2 = openN (P - 4) cs xs := by rw [openN, fromN, hxl]
    rw [hM1, hO1] at H1 H2
    have hG : GoodS G S P xs cs (gensN (P - 4) cs xs) := ⟨hz', by rw [hxl]; exact hle, hso, rfl, by omega⟩
    have hfl : (gensN (P - 4) cs xs).flatten.length ≤ 262144 := by have := hG.flat; have := hG.from_; have := hG.len; omega
    have hNA : NatsAt w w.heap.size A' m cs := h'
    by_cases hb : cl = true ∧ openN (P - 4) cs xs ≠ []
    · left
      refine ⟨fun w' k => ?_, fun w' k => ?_⟩
      · have := restore_bad (w := w') (cl := cl) G S n c m c' A A' (gensN (P - 4) cs xs) (openN (P - 4) cs xs) 0 (fun _ w2 k2 => H1 w2 (k.trans k2)) (by rw [restR, if_neg (by omega), if_pos rfl, if_pos hb]; decide)
        rwa [show restR n (openN (P - 4) cs xs) 0 cl = 1 by rw [restR, if_neg (by omega), if_pos rfl, if_pos hb]] at this
      · exact rrestore_bad G S n c m c' A A' (gensN (P - 4) cs xs) (openN (P - 4) cs xs) 0 cl (by omega) (fun w2 k2 => H2 w2 (k.trans k2)) (Or.inr ⟨rfl, hb.1, hb.2⟩)
    · right
      refine ⟨G, S, P, cs, rfl, rfl, hz', hG, rfl, fun hcl => Decidable.byContradiction fun ho => hb ⟨hcl, ho⟩, fun w' k => ?_, fun w' k => ?_⟩
      · exact restore_good (w := w') (cl := cl) G S P hz' n c m c' w.heap.size w.heap.size A A' xs cs (gensN (P - 4) cs xs) (openN (P - 4) cs xs) 0 k.size k.size (h.keep (Nat.le_refl _) k) (hNA.keep (Nat.le_refl _) k) (by omega) hfl hG.few (fun _ w2 k2 => H1 w2 (k.trans k2)) (by rw [restR, if_neg (by omega), if_pos rfl, if_neg hb]) (by omega)
      · exact rrestore_good (w := w') G S n c m c' w.heap.size w.heap.size A A' xs cs (gensN (P - 4) cs xs) (openN (P - 4) cs xs) cl (by omega) k.size k.size (h.keep (Nat.le_refl _) k) (hNA.keep (Nat.le_refl _) k) (by omega) (fun w2 k2 => H2 w2 (k.trans k2)) hb
end
end Go.Proofs.Ytcafofffgmaepaa
/- What the chapter's examples say: awake. -/
namespace Go.Proofs.Ytcafofffgmaepaa
open Go.RowKit
set_option linter.unusedVariables false
set_option linter.unusedSimpArgs false
theorem one_block (w : World) (cs : Array Value) (t : TypeId) : ∃ w1, w.alloc (.cells cs t) = w1 ∧ w1.heap.size = w.heap.size + 1 ∧ Keep w w1 ∧ w1.heap[w.heap.size]? = some (.cells cs t (0, 0)) := ⟨_, rfl, by simp, (Keep.refl w).alloc _ _, heap_alloc_new w _⟩
theorem one_const (w : World) (cs : Array Value) (t : TypeId) (fr : Nat × Nat) : ∃ w1, w.alloc (.cells cs t fr) = w1 ∧ w1.heap.size = w.heap.size + 1 ∧ Keep w w1 ∧ w1.heap[w.heap.size]? = some (.cells cs t fr) := ⟨_, rfl, by simp, (Keep.refl w).ob _, heap_alloc_new w _⟩
theorem block_keep {w w' : World} {b : Nat} {o : Obj} (h : w.heap[b]? = some o) (k : Keep w w') : w'.heap[b]? = some o := by
  rw [k.block b (Array.getElem?_eq_some_iff.1 h).1]; exact h
theorem block_lies {w : World} {b n : Nat} {cs : Array Value} {t : TypeId} {fr : Nat × Nat} {xs : List Nat} (h : w.heap[b]? = some (.cells cs t fr)) (hc : cs = (u8s xs).toArray) (hl : xs.length = n) (hx : AllB xs) (F : Nat → Prop) (hF : F b) : LiesIn w F ⟨some ⟨b, 0, none⟩, n, n, xs⟩ := by
  refine ⟨hl, hx, Nat.le_refl _, fun _ => ⟨b, 0, rfl, hF, fun i hi => ?_⟩⟩
  have hi : i < n := hi
  rw [Nat.zero_add]
  unfold World.cell?
  rw [h, hc]
  show (u8s xs).toArray[i]? = _
  rw [List.getElem?_toArray, u8s_get, List.getElem?_eq_getElem (by omega)]
  simp [List.getD_eq_getElem?_getD, List.getElem?_eq_getElem (show i < xs.length by omega)]
/-- Two rows as a slice of structs. -/
theorem two_st {w : World} {b : Nat} {p q : PairV} {t : TypeId} {fr : Nat × Nat} {F : Nat → Prop} (h : w.heap[b]? = some (.cells #[p.a.val, p.b.val, q.a.val, q.b.val] t fr)) (h1 : LiesIn w F p.a) (h2 : LiesIn w F p.b) (h3 : LiesIn w F q.a) (h4 : LiesIn w F q.b) (hF : F b) : StIn w F (some ⟨b, 0, none⟩) 2 [p, q] := by
  refine ⟨rfl, fun x hx => ?_, fun _ => ⟨b, 0, rfl, hF, fun i x hi => ?_⟩⟩
  · rcases List.mem_cons.1 hx with e | e
    · rw [e]; exact ⟨h1, h2⟩
    · rw [List.mem_singleton.1 e]; exact ⟨h3, h4⟩
  · match i, hi with
    | 0, hi =>
      simp at hi
      subst hi
      exact ⟨by simp [World.cell?, h], by simp [World.cell?, h]⟩
    | 1, hi =>
      simp at hi
      subst hi
      exact ⟨by simp [World.cell?, h], by simp [World.cell?, h]⟩
    | i + 2, hi => simp at hi
theorem size236 : SizeS 2 3 6 := ⟨by decide, by decide, by decide, by decide, by decide, by decide, by decide, by decide, by decide⟩
set_option maxRecDepth 100000 in
set_option maxHeartbeats 8000000 in
theorem sawake_any (w : World) : Calls Try.prog 7 #[] w fun e w' => e = .returned (.bool true) ∧ Keep w w' := by
  have g0 := GoodS.start size236
  have g1 := g0.sub false [97, 98, 99] 9
  have e1 : subX 6 false [] [] [97, 98, 99] 9 = [97, 98, 99] := by decide +kernel
  have e2 : subE 6 false [] [] [97, 98, 99] 9 = 0 := by decide +kernel
  have e3 : gensN 2 [] [97, 98, 99] = [[97, 98]] := by decide +kernel
  have e4 : flushC 6 false [97, 98, 99] [] = [3] := by decide +kernel
  have e5 : gensN 2 [3] [97, 98, 99] = [[97, 98], [99]] := by decide +kernel
  rw [e1, show 6 - 4 = 2 from rfl, e3] at g1
  have g2 := g1.flush false
  rw [e4, show 6 - 4 = 2 from rfl, e5] at g2
  have HN := Lib.hid (new_good 2 3 6 size236 w)
  have kc := fun (w : World) (C : Array Value) (n c : Nat) => Lib.run_convert_bytes_const (P := Try.prog) w 22 5 C n c Try.underlying22 Try.underlying5
  have G0 := Lib.hid g0
  have G1 := Lib.hid g1
  have G2 := Lib.hid g2
  clear g0 g1 g2
  go_enter Try.func7, Try.ntmps7
  go_wp2_with fail
  refine HN.out.mono ?_
  rintro e w1 ⟨b, F, rfl, s1, f1, k1⟩
  have S1 := Lib.hid s1
  have F1 := Lib.hid f1
  have K1 := Lib.hid k1
  clear s1 f1 k1 HN
  go_wp2_with fail
  obtain ⟨wa, ha, za, ka, ba⟩ := one_const w1 #[.int .u8 97, .int .u8 98, .int .u8 99] 5 (3, 4)
  try rw [ha]
  have HB := Lib.hid ((block_lies (n := 3) (xs := [97, 98, 99]) ba rfl rfl (by decide) (fun x => x < wa.heap.size) (by show w1.heap.size < _; omega)).bytes fun x hx => hx)
  have HSU := Lib.hid (submit_any (most := 9) (S1.out.keep ka) G0.out wa.heap.size 3 3 _ HB.out (Nat.le_refl _) (by omega))
  rw [e1, e2, show 6 - 4 = 2 from rfl, e3] at HSU
  have KA : Hid (Keep w wa) := K1.out.trans ka
  have FA : Hid (∀ i, F i → i < w1.heap.size) := S1.out.lt
  have ZA : Hid (w1.heap.size ≤ wa.heap.size) := by show _ ≤ _; omega
  clear ha za ka ba S1
  refine HSU.out.mono ?_
  rintro e w2 ⟨rfl, F2, s2, t2, f2⟩
  have S2 := Lib.hid s2
  have K2 : Hid (Keep w w2) := t2.keep KA.out F1.out
  have F2' : Hid (∀ i, F2 i → w.heap.size ≤ i) := fun i hi => by
    rcases f2 i hi with e | e
    · exact F1.out i e
    · exact Nat.le_trans KA.out.size e
  clear s2 t2 f2 HSU HB KA FA ZA
  go_wp2_with fail
  obtain ⟨B1, m1, d1, B2, m2, d2, B3, m3, d3, a2⟩ := S2.out
  refine (gens_any a2 (by decide)).mono ?_
  rintro e w2' ⟨rfl, rfl⟩
  clear a2
  go_wp2_with fail
  refine (flush_any S2.out G1.out (by decide)).mono ?_
  rw [e4, show flushE false = 0 from rfl, show 6 - 4 = 2 from rfl, e5]
  rintro e w3 ⟨rfl, F3, s3, t3, f3⟩
  have S3 := Lib.hid s3
  have K3 : Hid (Keep w w3) := t3.keep K2.out F2'.out
  have F3' : Hid (∀ i, F3 i → w.heap.size ≤ i) := fun i hi => by
    rcases f3 i hi with e | e
    · exact F2'.out i e
    · exact Nat.le_trans K2.out.size e
  clear s3 t3 f3 S2 K2 F2'
  go_wp2_with fail
  obtain ⟨B1, m1, d1, B2, m2, d2, B3, m3, d3, a3⟩ := S3.out
  refine (gens_any a3 (by decide)).mono ?_
  rintro e w3' ⟨rfl, rfl⟩
  clear a3
  go_wp2_with fail
  obtain ⟨wb, hb, zb, kb, bb⟩ := one_block w3 #[.int .u8 1, .int .u8 1] 5
  try rw [hb]
  have HB := Lib.hid ((block_lies (n := 2) (xs := [1, 1]) bb rfl rfl (by decide) (fun x => x < wb.heap.size) (by show w3.heap.size < _; omega)).bytes fun x hx => hx)
  have HRO := Lib.hid (rowm_any (S3.out.keep kb) G2.out 1 (by decide) wb.heap.size 2 2 _ [1, 1] HB.out (Nat.le_refl _))
  rw [show rowC 2 [[97, 98], [99]] 1 [1, 1] = [1, 1] by decide +kernel, show rowP 2 3 [[97, 98], [99]] 1 [1, 1] = [1, 99, 0] by decide +kernel, show rowE 2 [[97, 98], [99]] 1 [1, 1].length = 0 by decide +kernel] at HRO
  have KB : Hid (Keep w3 wb) := kb
  clear hb zb kb bb
  refine HRO.out.mono ?_
  rintro e w4 ⟨P1, p1, q1, P2, p2, q2, rfl, o1, o2, k4⟩
  have O1 := Lib.hid o1
  have O2 := Lib.hid o2
  have K4 : Hid (Keep w3 w4) := KB.out.trans k4
  have l1 := Lib.hid o1.length
  have l2 := Lib.hid o2.length
  clear o1 o2 k4 HRO HB
  go_wp2_with fail
  obtain ⟨w5, h5, z5, k5, b5⟩ := one_block w4 #[.slice P1 p1 q1, .slice P2 p2 q2] 56
  try rw [h5]
  have HSE := Lib.hid (send_any (S3.out.keep (K4.out.trans k5)) G2.out 0 (by decide) 1 (by decide) w5.heap.size 0 0 none [] (Bytes.nil _ _ _) (Nat.le_refl _))
  rw [show sendC 2 [[97, 98], [99]] 0 1 [] = [0, 1] by decide +kernel, show sendP 2 3 [[97, 98], [99]] 0 1 [] = [2, 97, 98] by decide +kernel, show symE [[97, 98], [99]] 0 = 0 by decide +kernel] at HSE
  refine HSE.out.mono ?_
  rintro e w6 ⟨P3, p3, q3, P4, p4, q4, rfl, o3, o4, k6⟩
  obtain ⟨w7, h7, z7, k7, b7⟩ := one_block w6 #[.slice P3 p3 q3, .slice P4 p4 q4] 56
  obtain ⟨N5, hN5⟩ : ∃ N5, w4.heap.size = N5 := ⟨_, rfl⟩
  obtain ⟨N7, hN7⟩ : ∃ N7, w6.heap.size = N7 := ⟨_, rfl⟩
  rw [hN5] at b5
  rw [hN7] at b7
  have c5 := block_keep b5 (k6.trans k7)
  have x0 : w7.cell? ⟨N5, 0, none⟩ = some (.slice P1 p1 q1) := by simp [World.cell?, c5]
  have x1 : w7.cell? ⟨N5, 1, none⟩ = some (.slice P2 p2 q2) := by simp [World.cell?, c5]
  have x2 : w7.cell? ⟨N7, 0, none⟩ = some (.slice P3 p3 q3) := by simp [World.cell?, b7]
  have x3 : w7.cell? ⟨N7, 1, none⟩ = some (.slice P4 p4 q4) := by simp [World.cell?, b7]
  have k47 : Keep w4 w7 := (k5.trans k6).trans k7
  have L1 : Hid (LiesIn w7 (fun x => x < w7.heap.size) ⟨P1, p1, q1, [1, 1]⟩) := (O1.out.keep k47).lies.mono fun x hx => ((O1.out.keep k47).blt x hx).2
  have L2 : Hid (LiesIn w7 (fun x => x < w7.heap.size) ⟨P2, p2, q2, [1, 99, 0]⟩) := (O2.out.keep k47).lies.mono fun x hx => ((O2.out.keep k47).blt x hx).2
  have L3 : Hid (LiesIn w7 (fun x => x < w7.heap.size) ⟨P3, p3, q3, [0, 1]⟩) := (o3.keep k7).lies.mono fun x hx => ((o3.keep k7).blt x hx).2
  have L4 : Hid (LiesIn w7 (fun x => x < w7.heap.size) ⟨P4, p4, q4, [2, 97, 98]⟩) := (o4.keep k7).lies.mono fun x hx => ((o4.keep k7).blt x hx).2
  have K7 : Hid (Keep w w7) := (K3.out.trans K4.out).trans k47
  obtain ⟨a1, g1, y1, j1, m1⟩ := one_block w7 #[.slice P1 p1 q1, .slice P2 p2 q2, .slice P3 p3 q3, .slice P4 p4 q4] 56
  obtain ⟨a2, g2, y2, j2, m2⟩ := one_block a1 #[.int .u8 1, .int .u8 1] 5
  obtain ⟨a3, g3, y3, j3, m3⟩ := one_block a2 #[.int .u8 1, .int .u8 99, .int .u8 0] 5
  obtain ⟨a4, g4, y4, j4, m4⟩ := one_block a3 #[.int .u8 0, .int .u8 1] 5
  obtain ⟨a5, g5, y5, j5, m5⟩ := one_block a4 #[.int .u8 2, .int .u8 97, .int .u8 98] 5
  obtain ⟨V, hV⟩ : ∃ V, w7.heap.size = V := ⟨_, rfl⟩
  have z1 : a1.heap.size = V + 1 := by omega
  have z2 : a2.heap.size = V + 1 + 1 := by omega
  have z3 : a3.heap.size = V + 1 + 1 + 1 := by omega
  have z4 : a4.heap.size = V + 1 + 1 + 1 + 1 := by omega
  have z5' : a5.heap.size = V + 1 + 1 + 1 + 1 + 1 := by omega
  obtain ⟨a6, g6, y6, j6, m6⟩ := one_block a5 #[.slice (some ⟨V + 1, 0, none⟩) 2 2, .slice (some ⟨V + 1 + 1, 0, none⟩) 3 3, .slice (some ⟨V + 1 + 1 + 1, 0, none⟩) 2 2, .slice (some ⟨V + 1 + 1 + 1 + 1, 0, none⟩) 3 3] 56
  rw [hV] at m1
  rw [z1] at m2
  rw [z2] at m3
  rw [z3] at m4
  rw [z4] at m5
  rw [z5'] at m6
  have t5 := j6
  have t4 := j5.trans t5
  have t3 := j4.trans t4
  have t2 := j3.trans t3
  have t1 := j2.trans t2
  have t0 := j1.trans t1
  have r1 := block_keep m1 t1
  have r2 := block_keep m2 t2
  have r3 := block_keep m3 t3
  have r4 := block_keep m4 t4
  have r5 := block_keep m5 t5
  have hs6 : w7.heap.size ≤ a6.heap.size := t0.size
  have hz6 : a6.heap.size = V + 1 + 1 + 1 + 1 + 1 + 1 := by omega
  have F1 : StIn a6 (fun x => x < a6.heap.size) (some ⟨V, 0, none⟩) 2 [⟨⟨P1, p1, q1, [1, 1]⟩, ⟨P2, p2, q2, [1, 99, 0]⟩⟩, ⟨⟨P3, p3, q3, [0, 1]⟩, ⟨P4, p4, q4, [2, 97, 98]⟩⟩] :=
    two_st (p := ⟨⟨P1, p1, q1, [1, 1]⟩, ⟨P2, p2, q2, [1, 99, 0]⟩⟩) (q := ⟨⟨P3, p3, q3, [0, 1]⟩, ⟨P4, p4, q4, [2, 97, 98]⟩⟩) r1
      ((L1.out.turned (Turned.of_keep (F := fun _ => False) t0) fun _ _ e => e).mono fun x (hx : x < w7.heap.size) => by show x < _; omega)
      ((L2.out.turned (Turned.of_keep (F := fun _ => False) t0) fun _ _ e => e).mono fun x (hx : x < w7.heap.size) => by show x < _; omega)
      ((L3.out.turned (Turned.of_keep (F := fun _ => False) t0) fun _ _ e => e).mono fun x (hx : x < w7.heap.size) => by show x < _; omega)
      ((L4.out.turned (Turned.of_keep (F := fun _ => False) t0) fun _ _ e => e).mono fun x (hx : x < w7.heap.size) => by show x < _; omega) (by show V < _; omega)
  have F2 : StIn a6 (fun x => x < a6.heap.size) (some ⟨V + 1 + 1 + 1 + 1 + 1, 0, none⟩) 2 [⟨⟨some ⟨V + 1, 0, none⟩, 2, 2, [1, 1]⟩, ⟨some ⟨V + 1 + 1, 0, none⟩, 3, 3, [1, 99, 0]⟩⟩, ⟨⟨some ⟨V + 1 + 1 + 1, 0, none⟩, 2, 2, [0, 1]⟩, ⟨some ⟨V + 1 + 1 + 1 + 1, 0, none⟩, 3, 3, [2, 97, 98]⟩⟩] :=
    two_st (p := ⟨⟨some ⟨V + 1, 0, none⟩, 2, 2, [1, 1]⟩, ⟨some ⟨V + 1 + 1, 0, none⟩, 3, 3, [1, 99, 0]⟩⟩) (q := ⟨⟨some ⟨V + 1 + 1 + 1, 0, none⟩, 2, 2, [0, 1]⟩, ⟨some ⟨V + 1 + 1 + 1 + 1, 0, none⟩, 3, 3, [2, 97, 98]⟩⟩) m6
      (block_lies r2 rfl rfl (by decide) _ (by show V + 1 < _; omega)) (block_lies r3 rfl rfl (by decide) _ (by show V + 1 + 1 < _; omega)) (block_lies r4 rfl rfl (by decide) _ (by show V + 1 + 1 + 1 < _; omega)) (block_lies r5 rfl rfl (by decide) _ (by show V + 1 + 1 + 1 + 1 < _; omega)) (by show V + 1 + 1 + 1 + 1 + 1 < _; omega)
  have HSM := Lib.hid (bsame_any 2 2 2 2 _ _ _ _ _ _ a6 F1 F2 (fun x hx => hx) (fun x hx => hx) (by decide))
  rw [decide_eq_true (by rfl)] at HSM
  have KF : Hid (Keep w a6) := K7.out.trans t0
  have ZZ := Lib.hid (And.intro z1 (And.intro z2 (And.intro z3 (And.intro z4 z5'))))
  have G6 := Lib.hid g6
  clear o3 o4 k6 k5 k47 HSE b5 b7 c5 m1 m2 m3 m4 m5 m6 r1 r2 r3 r4 r5 t0 t1 t2 t3 t4 t5 F1 F2 z1 z2 z3 z4 z5' hs6 hz6 y1 y2 y3 y4 y5 y6 j1 j2 j3 j4 j5 j6 z5 z7 k7 h5 L1 L2 L3 L4 O1 O2 l1 l2
  clear g6
  go_wp2_with fail
  rw [ZZ.out.1, ZZ.out.2.1, ZZ.out.2.2.1, ZZ.out.2.2.2.1, ZZ.out.2.2.2.2, G6.out]
  refine HSM.out.mono ?_
  rintro e w9 ⟨rfl, k9⟩
  have K9 : Hid (Keep w w9) := KF.out.trans k9
  clear k9 HSM
  go_wp2_with fail
  go_ret
  exact ⟨rfl, K9.out⟩
end Go.Proofs.Ytcafofffgmaepaa
/- The landed source: none; what a chapter's closed statement meets. -/
namespace Go.Proofs.Ytcafofffgmaepaa
open Go.RowKit
set_option linter.unusedVariables false
set_option linter.unusedSimpArgs false
set_option maxHeartbeats 1000000 in
theorem close_nil (w : World) : Calls Try.prog 18 #[.pointer none] w fun e w' => e = .returned (.int .i64 2) ∧ Keep w w' := by
  go_enter Try.func18, Try.ntmps18
  go_wp2_with fail
  refine (flush_nil w).mono ?_
  rintro e w1 ⟨rfl, k1⟩
  have K1 := Lib.hid k1
  clear k1
  go_wp2_with fail
  go_ret
  exact ⟨rfl, K1.out⟩
set_option maxHeartbeats 2000000 in
theorem submit_nil (n5 c5 most : Nat) (A5 : Option Addr) (w : World) : Calls Try.prog 14 #[.pointer none, .slice A5 n5 c5, .int .u64 (most : Int)] w fun e w' => e = .returned (.int .i64 2) ∧ Keep w w' := by
  go_enter Try.func14, Try.ntmps14
  go_wp2_with fail
  refine (isnone_nil w).mono ?_
  rintro e w1 ⟨u1, rfl, k1, a1⟩
  obtain ⟨i1, j1, rfl⟩ := a1.form
  have K1 := Lib.hid k1
  have V1 := Lib.hid a1
  clear k1 a1
  go_wp2_with fail
  refine (isclosed_nil w1).mono ?_
  rintro e w2 ⟨u2, rfl, k2, a2⟩
  obtain ⟨i2, j2, rfl⟩ := a2.form
  have K2 := Lib.hid k2
  have V2 := Lib.hid a2
  clear k2 a2
  go_wp2_with fail
  refine (isfull_nil n5 most w2).mono ?_
  rintro e w3 ⟨u3, rfl, k3, a3⟩
  obtain ⟨i3, j3, rfl⟩ := a3.form
  have K3 := Lib.hid k3
  have V3 := Lib.hid a3
  clear k3 a3
  go_wp2_with fail
  refine (first3 _ _ _ 2 0 0 w3 (V1.out.keep (K2.out.trans K3.out)) ((V2.out.keep K3.out).weak fun e => by omega) (V3.out.weak fun e => by omega) _ _).mono ?_
  rw [show or3 2 0 0 = 2 from rfl]
  rintro e w4 ⟨rfl, m, hw4⟩
  have K4 : Hid (Keep w w4) := by show Keep w w4; rw [hw4]; exact (((K1.out.trans K2.out).trans K3.out).alloc _ _).drewN m
  clear hw4 K1 V1 K2 V2 K3 V3
  go_wp2_with fail
  go_ret
  exact ⟨rfl, K4.out⟩
set_option maxHeartbeats 2000000 in
theorem syms_nil (gen : Nat) (w : World) : Calls Try.prog 20 #[.pointer none, .int .u64 (gen : Int)] w fun e w' => e = .returned (.tuple #[.slice none 0 0, .int .i64 2]) ∧ Keep w w' := by
  go_enter Try.func20, Try.ntmps20
  go_wp2_with fail
  refine (isnone_nil w).mono ?_
  rintro e w1 ⟨u1, rfl, k1, a1⟩
  obtain ⟨i1, j1, rfl⟩ := a1.form
  have K1 := Lib.hid k1
  have V1 := Lib.hid a1
  clear k1 a1
  go_wp2_with fail
  refine (hasno_nil gen w1).mono ?_
  rintro e w2 ⟨u2, rfl, k2, a2⟩
  obtain ⟨i2, j2, rfl⟩ := a2.form
  have K2 := Lib.hid k2
  have V2 := Lib.hid a2
  clear k2 a2
  go_wp2_with fail
  refine (first2 _ _ 2 0 w2 (V1.out.keep K2.out) (V2.out.weak fun e => by omega) _ _).mono ?_
  rw [show or2 2 0 = 2 from rfl]
  rintro e w4 ⟨rfl, m, hw4⟩
  have K4 : Hid (Keep w w4) := by show Keep w w4; rw [hw4]; exact ((K1.out.trans K2.out).alloc _ _).drewN m
  clear hw4 K1 V1 K2 V2
  go_wp2_with fail
  go_ret2
  exact ⟨rfl, K4.out⟩
set_option maxHeartbeats 2000000 in
theorem rowm_nil (gen n5 c5 : Nat) (A5 : Option Addr) (w : World) : Calls Try.prog 23 #[.pointer none, .int .u64 (gen : Int), .slice A5 n5 c5] w fun e w' => e = .returned (.tuple #[.agg #[.slice none 0 0, .slice none 0 0], .int .i64 2]) ∧ Keep w w' := by
  obtain ⟨H, hH⟩ : ∃ H, w.heap.size = H := ⟨_, rfl⟩
  obtain ⟨w0, hw0⟩ : ∃ w0, w.alloc (.cells #[.slice none 0 0, .slice none 0 0] 56) = w0 := ⟨_, rfl⟩
  have k0 : Keep w w0 := by rw [← hw0]; exact (Keep.refl w).alloc _ _
  have p0 : Pair2 w0 H (.slice none 0 0) (.slice none 0 0) 56 := by rw [← hw0, ← hH]; exact Pair2.new w _ _ _
  have K0 := Lib.hid k0
  have P0 := Lib.hid p0
  have HHH := Lib.hid hH
  clear k0 p0
  go_enter Try.func23, Try.ntmps23
  go_wp2_with fail
  refine (isnone_nil w0).mono ?_
  rintro e w1 ⟨u1, rfl, k1, a1⟩
  obtain ⟨i1, j1, rfl⟩ := a1.form
  have K1 := Lib.hid k1
  have V1 := Lib.hid a1
  clear k1 a1
  go_wp2_with fail
  refine (hasno_nil gen w1).mono ?_
  rintro e w2 ⟨u2, rfl, k2, a2⟩
  obtain ⟨i2, j2, rfl⟩ := a2.form
  have K2 := Lib.hid k2
  have V2 := Lib.hid a2
  clear k2 a2
  go_wp2_with fail
  refine (fitsnot_nil A5 n5 c5 w2).mono ?_
  rintro e w3 ⟨u3, rfl, k3, a3⟩
  obtain ⟨i3, j3, rfl⟩ := a3.form
  have K3 := Lib.hid k3
  have V3 := Lib.hid a3
  clear k3 a3
  go_wp2_with fail
  refine (first3 _ _ _ 2 0 0 w3 (V1.out.keep (K2.out.trans K3.out)) ((V2.out.keep K3.out).weak fun e => by omega) (V3.out.weak fun e => by omega) _ _).mono ?_
  rw [show or3 2 0 0 = 2 from rfl]
  rintro e w4 ⟨rfl, m, hw4⟩
  have K4 : Hid (Keep w0 w4) := by show Keep w0 w4; rw [hw4]; exact (((K1.out.trans K2.out).trans K3.out).alloc _ _).drewN m
  clear hw4 K1 V1 K2 V2 K3 V3
  have p4 := P0.out.keep K4.out
  have x0 := p4.cell0
  have x1 := p4.cell1
  have f0 := p4.free 0
  have f1 := p4.free 1
  have p8 := p4.put0 (x := .slice none 0 0)
  have y1 := p8.cell1
  have g1 := p8.free 1
  have p9 := p8.put1 (x := .slice none 0 0)
  have K9 : Hid (Keep w ((w4.setCell ⟨H, 0, none⟩ (.slice none 0 0)).setCell ⟨H, 1, none⟩ (.slice none 0 0))) := ((K0.out.trans K4.out).setCell (a := ⟨H, 0, none⟩) (by have := HHH.out; show _ ≤ H; omega) _).setCell (a := ⟨H, 1, none⟩) (by have := HHH.out; show _ ≤ H; omega) _
  clear p4 p8
  go_wp2_with fail
  refine bodyPost_ret (results_cell_and (p := 6) (u := 7) (ty := 56) rfl _ _ H 56 _ (0, 0) _ rfl p9 Try.underlying56 rfl infoARow) rfl ?_
  exact ⟨rfl, K9.out⟩
set_option maxHeartbeats 2000000 in
theorem send_nil (gen sent n5 c5 : Nat) (A5 : Option Addr) (w : World) : Calls Try.prog 26 #[.pointer none, .int .u64 (gen : Int), .int .u64 (sent : Int), .slice A5 n5 c5] w fun e w' => e = .returned (.tuple #[.agg #[.slice none 0 0, .slice none 0 0], .int .i64 2]) ∧ Keep w w' := by
  obtain ⟨H, hH⟩ : ∃ H, w.heap.size = H := ⟨_, rfl⟩
  obtain ⟨w0, hw0⟩ : ∃ w0, w.alloc (.cells #[.slice none 0 0, .slice none 0 0] 56) = w0 := ⟨_, rfl⟩
  have k0 : Keep w w0 := by rw [← hw0]; exact (Keep.refl w).alloc _ _
  have p0 : Pair2 w0 H (.slice none 0 0) (.slice none 0 0) 56 := by rw [← hw0, ← hH]; exact Pair2.new w _ _ _
  have K0 := Lib.hid k0
  have P0 := Lib.hid p0
  have HHH := Lib.hid hH
  clear k0 p0
  go_enter Try.func26, Try.ntmps26
  go_wp2_with fail
  refine (isnone_nil w0).mono ?_
  rintro e w1 ⟨u1, rfl, k1, a1⟩
  obtain ⟨i1, j1, rfl⟩ := a1.form
  have K1 := Lib.hid k1
  have V1 := Lib.hid a1
  clear k1 a1
  go_wp2_with fail
  refine (hasno_nil gen w1).mono ?_
  rintro e w2 ⟨u2, rfl, k2, a2⟩
  obtain ⟨i2, j2, rfl⟩ := a2.form
  have K2 := Lib.hid k2
  have V2 := Lib.hid a2
  clear k2 a2
  go_wp2_with fail
  refine (first2 _ _ 2 0 w2 (V1.out.keep K2.out) (V2.out.weak fun e => by omega) _ _).mono ?_
  rw [show or2 2 0 = 2 from rfl]
  rintro e w4 ⟨rfl, m, hw4⟩
  have K4 : Hid (Keep w0 w4) := by show Keep w0 w4; rw [hw4]; exact ((K1.out.trans K2.out).alloc _ _).drewN m
  clear hw4 K1 V1 K2 V2
  have p4 := P0.out.keep K4.out
  have x0 := p4.cell0
  have x1 := p4.cell1
  have f0 := p4.free 0
  have f1 := p4.free 1
  have p8 := p4.put0 (x := .slice none 0 0)
  have y1 := p8.cell1
  have g1 := p8.free 1
  have p9 := p8.put1 (x := .slice none 0 0)
  have K9 : Hid (Keep w ((w4.setCell ⟨H, 0, none⟩ (.slice none 0 0)).setCell ⟨H, 1, none⟩ (.slice none 0 0))) := ((K0.out.trans K4.out).setCell (a := ⟨H, 0, none⟩) (by have := HHH.out; show _ ≤ H; omega) _).setCell (a := ⟨H, 1, none⟩) (by have := HHH.out; show _ ≤ H; omega) _
  clear p4 p8
  go_wp2_with fail
  refine bodyPost_ret (results_cell_and (p := 8) (u := 9) (ty := 56) rfl _ _ H 56 _ (0, 0) _ rfl p9 Try.underlying56 rfl infoARow) rfl ?_
  exact ⟨rfl, K9.out⟩
end Go.Proofs.Ytcafofffgmaepaa
