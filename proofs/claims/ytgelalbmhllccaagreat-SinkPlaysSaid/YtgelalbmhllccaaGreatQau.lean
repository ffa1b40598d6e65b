/- Both relays and both sinks side by side. -/
import Derived.Test.YtgelalbmhllccaaGreatQat
import Derived.Test.YtgelalbmhllccaaGreatQap
import Derived.Test.YtgelalbmhllccaaGreatQaj
import Derived.Lib.SlBytesConst
import Derived.Deep.RegionHeld3
import Derived.Tactics
namespace Go.Proofs.YtgelalbmhllccaaGreat
open Go.RowKit Lin
set_option linter.unusedVariables false
set_option linter.unusedSimpArgs false
/-- The relays at p and z, the landed sink at q, the document's own at r: all made since W, all apart. -/
structure BothK (W w : World) (p z q r g s k b : Nat) (L : Nat → List (List Nat)) (b' : Nat) (L' : Nat → List (List Nat)) (F F' : Nat → Prop) (got of : Nat) (kn br : Bool) (got' of' : Nat) (kn' br' : Bool) : Prop where
  R : BothR W w p z g s k b L b' L' F F'
  l : SnkR w q (g : Int) (s : Int) got of kn br
  d : RefK w r (g : Int) (s : Int) got' of' kn' br'
  n : ¬ F q ∧ ¬ F' q ∧ ¬ F r ∧ ¬ F' r ∧ q ≠ r
  lo : W.heap.size ≤ q ∧ W.heap.size ≤ r
namespace BothK
variable {W w w2 : World} {p z q r g s k b b' b2 got of got' of' got2 of2 : Nat} {L L' L2 : Nat → List (List Nat)} {F F' F2 D : Nat → Prop} {kn br kn' br' kn2 br2 : Bool}
theorem later (h : BothK W w p z q r g s k b L b' L' F F' got of kn br got' of' kn' br') (kp : Keep w w2) : BothK W w2 p z q r g s k b L b' L' F F' got of kn br got' of' kn' br' := ⟨h.R.later kp, h.l.keep kp, h.d.keep kp, h.n, h.lo⟩
/-- The landed relay goes on. -/
theorem left (h : BothK W w p z q r g s k b L b' L' F F' got of kn br got' of' kn' br') (hr : RelR w2 F2 p g s k b2 L2) (f : ∀ x, F2 x → F x ∨ w.heap.size ≤ x) (t : Turned F w w2) : BothK W w2 p z q r g s k b2 L2 b' L' F2 F' got of kn br got' of' kn' br' := by
  have h1 := h.l.lt
  have h2 := h.d.lt
  exact ⟨h.R.left hr f t, h.l.turned t h.n.1, h.d.turned t h.n.2.2.1, ⟨fun e => (f _ e).elim h.n.1 fun e => by omega, h.n.2.1, fun e => (f _ e).elim h.n.2.2.1 fun e => by omega, h.n.2.2.2⟩, h.lo⟩
/-- The document's own relay goes on. -/
theorem right (h : BothK W w p z q r g s k b L b' L' F F' got of kn br got' of' kn' br') (y : YNext w w2 F' F2 z g s k b2 L2) : BothK W w2 p z q r g s k b L b2 L2 F F2 got of kn br got' of' kn' br' := by
  have h1 := h.l.lt
  have h2 := h.d.lt
  exact ⟨h.R.right y, h.l.turned y.2.2 h.n.2.1, h.d.turned y.2.2 h.n.2.2.2.1, ⟨h.n.1, fun e => (y.2.1 _ e).elim h.n.2.1 fun e => by omega, h.n.2.2.1, fun e => (y.2.1 _ e).elim h.n.2.2.2.1 fun e => by omega, h.n.2.2.2.2⟩, h.lo⟩
/-- Something else turns. -/
theorem other (h : BothK W w p z q r g s k b L b' L' F F' got of kn br got' of' kn' br') (t : Turned D w w2) (hD : ∀ a, D a → W.heap.size ≤ a ∧ ¬ F a ∧ ¬ F' a ∧ a ≠ q ∧ a ≠ r) : BothK W w2 p z q r g s k b L b' L' F F' got of kn br got' of' kn' br' :=
  ⟨h.R.other t fun a e => ⟨(hD a e).1, (hD a e).2.1, (hD a e).2.2.1⟩, h.l.turned t fun e => (hD _ e).2.2.2.1 rfl, h.d.turned t fun e => (hD _ e).2.2.2.2 rfl, h.n, h.lo⟩
/-- The landed sink turns. -/
theorem sinkL (h : BothK W w p z q r g s k b L b' L' F F' got of kn br got' of' kn' br') (hs : SnkR w2 q (g : Int) (s : Int) got2 of2 kn2 br2) (t : Turned (fun a => a = q) w w2) : BothK W w2 p z q r g s k b L b' L' F F' got2 of2 kn2 br2 got' of' kn' br' :=
  ⟨h.R.other t fun a e => ⟨e ▸ h.lo.1, e ▸ h.n.1, e ▸ h.n.2.1⟩, hs, h.d.turned t fun e => h.n.2.2.2.2 e.symm, h.n, h.lo⟩
/-- The document's own sink turns. -/
theorem sinkD (h : BothK W w p z q r g s k b L b' L' F F' got of kn br got' of' kn' br') (hs : RefK w2 r (g : Int) (s : Int) got2 of2 kn2 br2) (t : Turned (fun a => a = r) w w2) : BothK W w2 p z q r g s k b L b' L' F F' got of kn br got2 of2 kn2 br2 :=
  ⟨h.R.other t fun a e => ⟨e ▸ h.lo.2, e ▸ h.n.2.2.1, e ▸ h.n.2.2.2.1⟩, h.l.turned t fun e => h.n.2.2.2.2 e, hs, h.n, h.lo⟩
/-- The document's own sink and its relay. -/
theorem sinkR (h : BothK W w p z q r g s k b L b' L' F F' got of kn br got' of' kn' br') (hs : RefK w2 r (g : Int) (s : Int) got2 of2 kn2 br2) (hy : RefY w2 F2 z g s k b' L') (f : ∀ x, F2 x → F' x ∨ w.heap.size ≤ x) (hr : ¬ F2 r) (t : Turned (fun a => F' a ∨ a = r) w w2) : BothK W w2 p z q r g s k b L b' L' F F2 got of kn br got2 of2 kn2 br2 := by
  have h1 := h.l.lt
  have hz := h.R.keep.size
  refine ⟨⟨h.R.y.turned t fun a ha e => ?_, hy, fun a ha hb => ?_, h.R.lo, fun a ha => ?_, t.keep h.R.keep fun x e => ?_⟩, h.l.turned t fun e => ?_, hs, ⟨h.n.1, fun e => (f _ e).elim h.n.2.1 fun e => by omega, h.n.2.2.1, hr, h.n.2.2.2.2⟩, h.lo⟩
  · rcases e with e | e
    · exact h.R.ap a ha e
    · exact h.n.2.2.1 (e ▸ ha)
  · rcases f a hb with e | e
    · exact h.R.ap a ha e
    · have := h.R.y.lt a ha; omega
  · rcases f a ha with e | e
    · exact h.R.lo' a e
    · omega
  · rcases e with e | e
    · exact h.R.lo' x e
    · exact e ▸ h.lo.2
  · rcases e with e | e
    · exact h.n.2.1 e
    · exact h.n.2.2.2.2 e
end BothK
/-- The act's own block, apart from all. -/
structure ActB (w : World) (gs : Nat) (cs : Array Value) (F F' : Nat → Prop) (q r : Nat) : Prop where
  b : w.heap[gs]? = some (.cells cs 47 (0, 0))
  n : ¬ F gs
  n' : ¬ F' gs
  k : gs ≠ q ∧ gs ≠ r
namespace ActB
variable {w w2 : World} {gs q r : Nat} {cs : Array Value} {F F' F2 D : Nat → Prop}
theorem lt (h : ActB w gs cs F F' q r) : gs < w.heap.size := (Array.getElem?_eq_some_iff.1 h.b).1
theorem later (h : ActB w gs cs F F' q r) (k : Keep w w2) : ActB w2 gs cs F F' q r := ⟨(k.block gs h.lt).trans h.b, h.n, h.n', h.k⟩
theorem left (h : ActB w gs cs F F' q r) (f : ∀ x, F2 x → F x ∨ w.heap.size ≤ x) (t : Turned F w w2) : ActB w2 gs cs F2 F' q r := ⟨(t.block gs h.lt h.n).trans h.b, fun e => (f gs e).elim h.n fun e => by have := h.lt; omega, h.n', h.k⟩
end ActB
/-- Release of the landed sink, whatever it has. -/
def relE (br : Bool) : Int := if br then 5 else 0
theorem krel_all {w : World} {F : Nat → Prop} {p q g s k b got of : Nat} {L : Nat → List (List Nat)} {kn br : Bool} (hS : SnkR w q (g : Int) (s : Int) got of kn br) (hR : RelR w F p g s k b L) (hq : ¬ F q) :
    Calls Tryz.prog 10 #[.pointer (some ⟨q, 0, none⟩), .pointer (some ⟨p, 0, none⟩)] w fun e w' => ∃ (A : Option Addr) (n c : Nat) (rs : List RowV) (n' : Nat) (br' : Bool), e = .returned (.tuple #[.slice A n c, .int .i64 (relE br')]) ∧ (br = false → RelT g s k b L got (rowsXs rs) n' br') ∧ (br = true → rs = [] ∧ n' = got ∧ br' = true) ∧
      RowsIn w' (fun x => w.heap.size ≤ x ∧ x < w'.heap.size) A n rs ∧ SnkR w' q (g : Int) (s : Int) n' of kn br' ∧ RelR w' F p g s k b L ∧ Turned (fun a => a = q) w w' := by
  cases br with
  | true =>
    refine (krel_br hS).mono ?_
    rintro e w1 ⟨rfl, k1⟩
    exact ⟨none, 0, 0, [], got, true, rfl, fun e => (by cases e), fun _ => ⟨rfl, rfl, rfl⟩, RowsIn.nothing _ _ _, hS.keep k1, hR.keep k1, Turned.of_keep k1⟩
  | false =>
    refine (krel_in hS hR hq).mono ?_
    rintro e w1 ⟨A, n, c, rs, n', br', rfl, h1, h2, h3, h4, h5, h6⟩
    exact ⟨A, n, c, rs, n', br', rfl, fun _ => h1, fun e => (by cases e), RowsIn.of_own h2 (fun r hr => (h3 r hr).lies.mono fun x e => (h3 r hr).1.lt x e) fun x e => h2.lt x e, h4, h5, h6⟩
/-- Release of the document's own, whatever it has. -/
theorem skrel_all {w : World} {F : Nat → Prop} {p q g s k b got of : Nat} {L : Nat → List (List Nat)} {kn br : Bool} (h : RefK w q (g : Int) (s : Int) got of kn br) (hy : RefY w F p g s k b L) (hq : ¬ F q) :
    Calls Tryz.prog 13 #[.pointer (some ⟨q, 0, none⟩), .pointer (some ⟨p, 0, none⟩)] w fun e w' => ∃ (A : Option Addr) (n c : Nat) (rs : List RowV) (F' : Nat → Prop) (n' : Nat) (br' : Bool), e = .returned (.tuple #[.slice A n c, .int .i64 (relE br')]) ∧ (br = false → RelT g s k b L got (rowsXs rs) n' br') ∧ (br = true → rs = [] ∧ n' = got ∧ br' = true) ∧
      RowsIn w' (fun x => w.heap.size ≤ x ∧ x < w'.heap.size) A n rs ∧ RefK w' q (g : Int) (s : Int) n' of kn br' ∧ RefY w' F' p g s k b L ∧ (∀ a, F' a → F a ∨ w.heap.size ≤ a) ∧ ¬ F' q ∧ Turned (fun a => F a ∨ a = q) w w' := by
  cases br with
  | true =>
    refine (skrel_br h).mono ?_
    rintro e w1 ⟨rfl, m, rfl⟩
    have k1 : Keep w (w.drewN m) := (Keep.refl w).drewN m
    exact ⟨none, 0, 0, [], F, got, true, rfl, fun e => (by cases e), fun _ => ⟨rfl, rfl, rfl⟩, RowsIn.nothing _ _ _, h.keep k1, hy.keep k1, fun a e => Or.inl e, hq, Turned.of_keep k1⟩
  | false =>
    refine (skrel_in h hy hq).mono ?_
    rintro e w1 ⟨A, n, c, rs, F', n', br', rfl, h1, h2, h3, h4, h5, h6, h7, h8⟩
    exact ⟨A, n, c, rs, F', n', br', rfl, fun _ => h1, fun e => (by cases e), h2.mono fun x e => ⟨e.1, e.2.1⟩, h4, h5, h6, h7, h8⟩
theorem rel_same {g s k b got n1 n2 : Nat} {L : Nat → List (List Nat)} {br b1 b2 : Bool} {r1 r2 : List RowV} (h1 : br = false → RelT g s k b L got (rowsXs r1) n1 b1) (e1 : br = true → r1 = [] ∧ n1 = got ∧ b1 = true) (h2 : br = false → RelT g s k b L got (rowsXs r2) n2 b2) (e2 : br = true → r2 = [] ∧ n2 = got ∧ b2 = true) : rowsXs r1 = rowsXs r2 ∧ n1 = n2 ∧ b1 = b2 := by
  cases br with
  | true =>
    obtain ⟨rfl, rfl, rfl⟩ := e1 rfl
    obtain ⟨rfl, rfl, rfl⟩ := e2 rfl
    exact ⟨rfl, rfl, rfl⟩
  | false => exact (h1 rfl).only (h2 rfl)
end Go.Proofs.YtgelalbmhllccaaGreat
/- What the chapter's examples say: layer 15's statements ask it first. -/
namespace Go.Proofs.YtgelalbmhllccaaGreat
open Go.RowKit Lin
set_option linter.unusedVariables false
set_option linter.unusedSimpArgs false
def swL1 : Nat → List (List Nat) := upd (fun _ => []) 0 [[1, 0, 0, 0, 0]]
def swL2 : Nat → List (List Nat) := upd swL1 0 [[1, 0, 0, 0, 0], [0, 1, 1, 97, 0]]
def swL3 : Nat → List (List Nat) := upd swL2 1 [[1, 0, 0, 0, 0]]
theorem sw_ins : insB 2 3 [] [1, 0, 0, 0, 0] = [[1, 0, 0, 0, 0]] ∧ insB 2 3 [[1, 0, 0, 0, 0]] [0, 1, 1, 97, 0] = [[1, 0, 0, 0, 0], [0, 1, 1, 97, 0]] := by decide +kernel
theorem sw_l1 : yTakeL 2 3 4 0 (fun _ => []) 0 2 3 ([1, 0] ++ [0, 0, 0]) = swL1 := by
  rw [yTakeL, if_pos (by decide +kernel)]
  show upd _ 0 (insB 2 3 [] [1, 0, 0, 0, 0]) = _
  rw [sw_ins.1]; rfl
theorem sw_l2 : yTakeL 2 3 4 0 swL1 0 2 3 ([0, 1] ++ [1, 97, 0]) = swL2 := by
  rw [yTakeL, if_pos (by decide +kernel)]
  show upd _ 0 (insB 2 3 [[1, 0, 0, 0, 0]] [0, 1, 1, 97, 0]) = _
  rw [sw_ins.2]; rfl
theorem sw_l3 : yTakeL 2 3 4 0 swL2 1 2 3 ([1, 0] ++ [0, 0, 0]) = swL3 := by
  rw [yTakeL, if_pos (by decide +kernel)]
  show upd _ 1 (insB 2 3 [] [1, 0, 0, 0, 0]) = _
  rw [sw_ins.1]; rfl
theorem sw_rel1 : RelT 2 3 4 0 swL3 0 [[97]] 1 false := ⟨rfl, fun i hi => by
  obtain rfl : i = 0 := by simp at hi; omega
  exact ⟨by decide +kernel, by decide +kernel, by decide +kernel⟩, fun e => (by cases e), fun _ => by decide +kernel⟩
theorem sw_rel2 : RelT 2 3 4 0 swL3 1 [] 1 false := ⟨rfl, fun i hi => by simp at hi, fun e => (by cases e), fun _ => by decide +kernel⟩
theorem two_three (w : World) (x y a b c : Nat) (h : ∀ z ∈ [x, y, a, b, c], z < 256) {w1 w2 : World} (h1 : w.alloc (.cells #[.int .u8 (x : Int), .int .u8 (y : Int)] 5) = w1) (h2 : w1.alloc (.cells #[.int .u8 (a : Int), .int .u8 (b : Int), .int .u8 (c : Int)] 5) = w2) :
    Bytes w2 w2.heap.size (some ⟨w.heap.size, 0, none⟩) 2 [x, y] ∧ Bytes w2 w2.heap.size (some ⟨w.heap.size + 1, 0, none⟩) 3 [a, b, c] ∧ Keep w w2 := by
  have o1 := Own.lit w 5 2 [x, y] #[.int .u8 (x : Int), .int .u8 (y : Int)] rfl rfl (by decide) (fun z hz => h z (by simp at hz ⊢; omega))
  have o2 := Own.lit w1 5 3 [a, b, c] #[.int .u8 (a : Int), .int .u8 (b : Int), .int .u8 (c : Int)] rfl rfl (by decide) (fun z hz => h z (by simp at hz ⊢; omega))
  rw [h1] at o1
  rw [h2] at o2
  have k1 : Keep w w1 := by rw [← h1]; exact (Keep.refl w).alloc _ _
  have k2 : Keep w1 w2 := by rw [← h2]; exact (Keep.refl w1).alloc _ _
  have s1 : w1.heap.size = w.heap.size + 1 := by rw [← h1]; simp
  rw [s1] at o2
  exact ⟨o1.bytes.keep (Nat.le_refl _) k2 |>.mono k2.size, o2.bytes, k1.trans k2⟩
theorem keep_obj {W w : World} (h : Keep W w) (o : Obj) : Keep W (w.alloc o) := Below.alloc h (Below.size h) o
theorem lies_block {w : World} {b n : Nat} {cs : Array Value} {t : TypeId} {fr : Nat × Nat} {xs : List Nat} (h : w.heap[b]? = some (.cells cs t fr)) (hc : cs = (u8s xs).toArray) (hl : xs.length = n) (hx : AllB xs) (F : Nat → Prop) (hF : F b) : LiesIn w F ⟨some ⟨b, 0, none⟩, n, n, xs⟩ := by
  refine ⟨hl, hx, Nat.le_refl _, fun _ => ⟨b, 0, rfl, hF, fun i hi => ?_⟩⟩
  have hi : i < n := hi
  rw [Nat.zero_add]
  unfold World.cell?
  rw [h, hc]
  show (u8s xs).toArray[i]? = _
  rw [List.getElem?_toArray, u8s_get, List.getElem?_eq_getElem (by omega)]
  simp [List.getD_eq_getElem?_getD, List.getElem?_eq_getElem (show i < xs.length by omega)]
theorem rows_lit1 (w : World) (t : TypeId) (r : RowV) : OwnRows (w.alloc (.cells #[r.val] t)) w.heap.size t (some ⟨w.heap.size, 0, none⟩) 1 1 [r] :=
  ⟨rfl, Or.inr ⟨w.heap.size, 1, #[r.val], rfl, Nat.le_refl _, heap_alloc_new _ _, Nat.le_refl _, by decide, rfl, rfl⟩⟩
set_option maxRecDepth 100000 in
set_option maxHeartbeats 4000000 in
theorem sink_awake (w : World) : Calls Tryz.prog 5 #[] w fun e w' => e = .returned (.bool true) ∧ Keep w w' := by
  go_enter Tryz.func5, Tryz.ntmps5
  go_wp2_with fail
  refine (relnew_in (g := 2) (s := 3) (k := 4) (by decide) (by decide) (by decide) (by decide) (by decide) (by decide) _).mono ?_
  rintro e w1 ⟨p, F1, rfl, r1, f1, k1⟩
  have R0 := Lib.hid r1
  have G0 := Lib.hid f1
  have K0 := Lib.hid k1
  clear r1 f1 k1
  go_wp2_with fail
  obtain ⟨wa1, hwa⟩ : ∃ v, w1.alloc (.cells #[.int .u8 1, .int .u8 0] 5) = v := ⟨_, rfl⟩
  obtain ⟨wb1, hwb⟩ : ∃ v, wa1.alloc (.cells #[.int .u8 0, .int .u8 0, .int .u8 0] 5) = v := ⟨_, rfl⟩
  have HL1 := Lib.hid (two_three w1 1 0 0 0 0 (by decide) hwa hwb)
  rw [hwa, hwb]
  clear hwa hwb
  have ht := rl_take_all (R0.out.keep HL1.out.2.2) 0 (by decide) _ _ 2 3 2 3 _ _ [1, 0] [0, 0, 0] (Nat.le_refl _) (Nat.le_refl _) HL1.out.1 HL1.out.2.1 (Nat.le_refl _) (Nat.le_refl _)
  rw [sw_l1] at ht
  refine ht.mono ?_
  clear ht
  rintro e v1 ⟨rfl, H1, r1, f1, t1⟩
  have R1 := Lib.hid r1
  have G1 : Hid (∀ x, H1 x → w.heap.size ≤ x) := fun x hx => by
    rcases f1 x hx with e | e
    · exact G0.out x e
    · have := K0.out.size; have := HL1.out.2.2.size; omega
  have K1 := Lib.hid (t1.keep (K0.out.trans HL1.out.2.2) G0.out)
  clear r1 f1 t1 R0 G0 K0 HL1
  go_wp2_with fail
  obtain ⟨wa2, hwa⟩ : ∃ v, v1.alloc (.cells #[.int .u8 0, .int .u8 1] 5) = v := ⟨_, rfl⟩
  obtain ⟨wb2, hwb⟩ : ∃ v, wa2.alloc (.cells #[.int .u8 1, .int .u8 97, .int .u8 0] 5) = v := ⟨_, rfl⟩
  have HL2 := Lib.hid (two_three v1 0 1 1 97 0 (by decide) hwa hwb)
  rw [hwa, hwb]
  clear hwa hwb
  have ht := rl_take_all (R1.out.keep HL2.out.2.2) 0 (by decide) _ _ 2 3 2 3 _ _ [0, 1] [1, 97, 0] (Nat.le_refl _) (Nat.le_refl _) HL2.out.1 HL2.out.2.1 (Nat.le_refl _) (Nat.le_refl _)
  rw [sw_l2] at ht
  refine ht.mono ?_
  clear ht
  rintro e v2 ⟨rfl, H2, r2, f2, t2⟩
  have R2 := Lib.hid r2
  have G2 : Hid (∀ x, H2 x → w.heap.size ≤ x) := fun x hx => by
    rcases f2 x hx with e | e
    · exact G1.out x e
    · have := K1.out.size; have := HL2.out.2.2.size; omega
  have K2 := Lib.hid (t2.keep (K1.out.trans HL2.out.2.2) G1.out)
  clear r2 f2 t2 R1 G1 K1 HL2
  go_wp2_with fail
  obtain ⟨wa3, hwa⟩ : ∃ v, v2.alloc (.cells #[.int .u8 1, .int .u8 0] 5) = v := ⟨_, rfl⟩
  obtain ⟨wb3, hwb⟩ : ∃ v, wa3.alloc (.cells #[.int .u8 0, .int .u8 0, .int .u8 0] 5) = v := ⟨_, rfl⟩
  have HL3 := Lib.hid (two_three v2 1 0 0 0 0 (by decide) hwa hwb)
  rw [hwa, hwb]
  clear hwa hwb
  have ht := rl_take_all (R2.out.keep HL3.out.2.2) 1 (by decide) _ _ 2 3 2 3 _ _ [1, 0] [0, 0, 0] (Nat.le_refl _) (Nat.le_refl _) HL3.out.1 HL3.out.2.1 (Nat.le_refl _) (Nat.le_refl _)
  rw [sw_l3] at ht
  refine ht.mono ?_
  clear ht
  rintro e v3 ⟨rfl, H3, r3, f3, t3⟩
  have R3 := Lib.hid r3
  have G3 : Hid (∀ x, H3 x → w.heap.size ≤ x) := fun x hx => by
    rcases f3 x hx with e | e
    · exact G2.out x e
    · have := K2.out.size; have := HL3.out.2.2.size; omega
  have K3 := Lib.hid (t3.keep (K2.out.trans HL3.out.2.2) G2.out)
  clear r3 f3 t3 R2 G2 K2 HL3
  go_wp2_with fail
  refine (lsnew_in 2 3 0 (by decide) (by decide) v3).mono ?_
  rintro e v4 ⟨rfl, s4, k4⟩
  have hq : ¬ H3 v3.heap.size := fun e => by have := R3.out.lt _ e; omega
  have HS4 := Lib.hid (And.intro s4 (And.intro hq (R3.out.keep k4)))
  have K4 := Lib.hid (K3.out.trans k4)
  have Z4 : Hid (w.heap.size ≤ v3.heap.size) := K3.out.size
  obtain ⟨q, hqn⟩ : ∃ v, v3.heap.size = v := ⟨_, rfl⟩
  simp only [hqn] at HS4 Z4 ⊢
  clear s4 k4 hq R3 K3 hqn
  go_wp2_with fail
  refine (krel_in (g := 2) (s := 3) HS4.out.1 HS4.out.2.2 HS4.out.2.1).mono ?_
  rintro e v5 ⟨A5, n5, c5, rs5, m5, br5, rfl, rt5, o5, l5, s5, y5, t5⟩
  obtain ⟨e1, rfl, rfl⟩ := rt5.only sw_rel1
  have n5e : n5 = 1 := by have h := o5.length; rw [← rowsXs_len, e1] at h; exact h.symm
  subst n5e
  have K5 := Lib.hid (t5.keep K4.out fun x e => by have := Z4.out; omega)
  have HO5 := Lib.hid (And.intro o5 (And.intro l5 (And.intro s5 (And.intro y5 (And.intro e1 t5.size)))))
  clear o5 l5 s5 y5 t5 rt5 e1
  go_wp2_with fail
  refine (krel_in (g := 2) (s := 3) HO5.out.2.2.1 HO5.out.2.2.2.1 HS4.out.2.1).mono ?_
  rintro e v6 ⟨A6, n6, c6, rs6, m6, br6, rfl, rt6, o6, l6, s6, y6, t6⟩
  obtain ⟨e1, rfl, rfl⟩ := rt6.only sw_rel2
  have n6e : n6 = 0 := by have h := o6.length; rw [← rowsXs_len, e1] at h; exact h.symm
  subst n6e
  have K6 := Lib.hid (t6.keep K5.out fun x e => by have := Z4.out; omega)
  have hA5 : RowsIn v6 (fun x => x < v6.heap.size) A5 1 rs5 := by
    have hne : ∀ x, v4.heap.size ≤ x → ¬ x = q := fun x h e => by have := HS4.out.1.lt; omega
    refine RowsIn.of_own (OwnRows.turned HO5.out.1 t6 fun x e => hne x (ownblock_cells HO5.out.1 e).1) (fun r hr => ((HO5.out.2.1 r hr).turned t6 fun x e => hne x (ownblock_cells (HO5.out.2.1 r hr).1 e).1).lies.mono fun x e => ?_) fun x e => Nat.lt_of_lt_of_le (HO5.out.1.lt x e).2 t6.size
    exact Nat.lt_of_lt_of_le ((HO5.out.2.1 r hr).1.lt x e).2 t6.size
  have HA5 := Lib.hid (And.intro hA5 HO5.out.2.2.2.2.1)
  have HS6 := Lib.hid s6
  clear o6 l6 s6 y6 t6 rt6 e1 hA5 HO5 HS4 K5 K4
  have kc := fun (w : World) (C : Array Value) (n c : Nat) => Lib.run_convert_bytes_const (P := Tryz.prog) w 43 5 C n c Tryz.underlying43 Tryz.underlying5
  obtain ⟨wa, hwa⟩ : ∃ v, v6.alloc (.cells #[.int .u8 97] 5 (1, 2)) = v := ⟨_, rfl⟩
  have bA : wa.heap[v6.heap.size]? = some (.cells #[.int .u8 97] 5 (1, 2)) := by rw [← hwa]; exact heap_alloc_new v6 _
  have ka : Keep v6 wa := by rw [← hwa]; exact keep_obj (Keep.refl v6) _
  have sa : wa.heap.size = v6.heap.size + 1 := by rw [← hwa]; simp
  obtain ⟨wb, hwb⟩ : ∃ v, wa.alloc (.cells #[.slice (some ⟨v6.heap.size, 0, none⟩) 1 1] 43) = v := ⟨_, rfl⟩
  have oR := rows_lit1 wa 43 ⟨some ⟨v6.heap.size, 0, none⟩, 1, 1, [97]⟩
  have kb : Keep wa wb := by rw [← hwb]; exact (Keep.refl wa).alloc _ _
  change OwnRows (wa.alloc (.cells #[.slice (some ⟨v6.heap.size, 0, none⟩) 1 1] 43)) _ _ _ _ _ _ at oR
  rw [hwb] at oR
  have hB : RowsIn wb (fun x => x < wb.heap.size) (some ⟨wa.heap.size, 0, none⟩) 1 [⟨some ⟨v6.heap.size, 0, none⟩, 1, 1, [97]⟩] := RowsIn.of_own oR (fun r hr => by
    obtain rfl : r = ⟨some ⟨v6.heap.size, 0, none⟩, 1, 1, [97]⟩ := by simpa using hr
    exact lies_block (n := 1) (xs := [97]) ((kb.block _ (by omega)).trans bA) rfl rfl (by decide) _ (by show v6.heap.size < wb.heap.size; have := kb.size; omega)) fun x e => (oR.lt x e).2
  have hsame := rsame_any 1 1 c5 1 _ _ _ _ _ _ wb ((HA5.out.1.turned (Turned.of_keep (F := fun _ => False) (ka.trans kb)) fun _ _ e => e).mono fun x e => Nat.lt_of_lt_of_le e (ka.trans kb).size) hB (fun _ e => e) (fun _ e => e) (by decide)
  rw [HA5.out.2] at hsame
  have hdec : decide ([[97]] = rowsXs [(⟨some ⟨v6.heap.size, 0, none⟩, 1, 1, [97]⟩ : RowV)]) = true := by simp [rowsXs]
  rw [hdec, sa] at hsame
  have HSM := Lib.hid hsame
  have HD := Lib.hid (fun m => ldelivered_any ((HS6.out.keep (ka.trans kb)).drewN m))
  have K7 := Lib.hid (K6.out.trans (ka.trans kb))
  clear bA ka oR kb hB hsame hdec HA5 HS6 K6
  go_wp2_with fail
  refine HSM.out.mono ?_
  rintro e w7 ⟨rfl, m, rfl⟩
  go_wp2_with fail
  refine (HD.out m).mono ?_
  rintro e w8 ⟨rfl, rfl⟩
  go_wp2_with fail
  go_ret
  exact ⟨rfl, K7.out.drewN m⟩
end Go.Proofs.YtgelalbmhllccaaGreat
/- A region that draws its order, whose stores come late: what is held need hold only until a late operation has come up. -/
namespace Go.Proofs.YtgelalbmhllccaaGreat
set_option linter.unusedVariables false
set_option linter.unusedSimpArgs false
section
variable {P : Program} {md : Region.Mode} {ops : Array Oper} {Q : Exit → Act → World → Prop} {S : World → Prop} {ls : List Nat}
/-- A late operation has come up. -/
def Late (ls : List Nat) (got : Array Bool) : Prop := ∃ t ∈ ls, got.getD t false = true
theorem Late.more {got : Array Bool} {i : Nat} (h : Late ls got) : Late ls (got.setIfInBounds i true) := by
  obtain ⟨t, a, b⟩ := h
  exact ⟨t, a, getD_set_true b⟩
theorem Late.less {got : Array Bool} {i j : Nat} (hi : i ∉ ls) (h : Late ls ((got.setIfInBounds i true).setIfInBounds j true)) : Late ls (got.setIfInBounds j true) := by
  obtain ⟨t, a, b⟩ := h
  refine ⟨t, a, ?_⟩
  have hti : i ≠ t := fun e => hi (e ▸ a)
  by_cases hij : j = i
  · subst hij
    rw [getD_set_ne _ hti] at b
    exact b
  · rw [Array.setIfInBounds_comm _ _ (Ne.symm hij)] at b
    rwa [getD_set_ne _ hti] at b
/-- In whatever order; what is held stands until a late operation has come up. -/
def wpTill (P : Program) (md : Region.Mode) (ops : Array Oper) (Q : Exit → Act → World → Prop) (S : World → Prop) (ls : List Nat) : Nat → Array Bool → Act → World → Prop
  | 0, got, a, w => Region.ready md ops got = [] ∧ Q .normal a w
  | n + 1, got, a, w => (Region.ready md ops got = [] → Q .normal a w) ∧ ∀ i ∈ Region.ready md ops got, wpOp P ops Q i (fun a' w' => (Late ls (got.setIfInBounds i true) ∨ S w') ∧ wpTill P md ops Q S ls n (got.setIfInBounds i true) a' w') a w
theorem wpAny_of_till : ∀ (n : Nat) (got : Array Bool) (a : Act) (w : World), wpTill P md ops Q S ls n got a w → wpAny P md ops Q n got a w
  | 0, _, _, _, h => h
  | n + 1, _, _, _, h => ⟨h.1, fun i hi => wpOp_mono (fun a' w' k => wpAny_of_till n _ a' w' k.2) (h.2 i hi)⟩
/-- A region begun so. -/
theorem wp_region_till {id : Nat} {a : Act} {w : World} (ls : List Nat) (S : World → Prop) (hm : P.follows .mixedOrders = true) (h : wpTill P .any ops Q S ls ops.size (Array.replicate ops.size false) a w.drew) : (Code.region id ops true).wp P Q a w :=
  wp_region_any hm (wpAny_of_till _ _ _ _ h)
/-- Once a late one alone may come up, nothing is held. -/
theorem wpTill_late : ∀ {n : Nat} {got : Array Bool} {a : Act} {w : World}, Late ls got → wpAnyH P md ops Q (fun _ => True) n got a w → wpTill P md ops Q S ls n got a w
  | 0, _, _, _, _, h => h
  | n + 1, _, _, _, hl, h => ⟨h.1, fun i hi => wpOp_mono (fun a' w' k => ⟨Or.inl hl.more, wpTill_late hl.more k.2⟩) (h.2 i hi)⟩
theorem wpTill_turn {n t : Nat} {got : Array Bool} {a : Act} {w : World} (hr : Region.ready md ops got = [t]) (ht : ls.contains t = true) (hb : decide (t < got.size) = true) (h : wpAnyH P md ops Q (fun _ => True) (n + 1) got a w) : wpTill P md ops Q S ls (n + 1) got a w := by
  refine ⟨h.1, fun i hi => ?_⟩
  have hit : i = t := by rw [hr] at hi; simpa using hi
  subst hit
  have hL : Late ls (got.setIfInBounds i true) := ⟨i, by simpa using ht, by
    have hb := of_decide_eq_true hb
    simp [Array.getD, hb]⟩
  exact wpOp_mono (fun a' w' k => ⟨Or.inl hL, wpTill_late hL k.2⟩) (h.2 i hi)
/-- Does each late operation wait for i, none of them come up yet? -/
def lateB (md : Region.Mode) (ops : Array Oper) (ls : List Nat) (got : Array Bool) (i : Nat) : Bool :=
  ls.all fun t => (!got.getD t false) && (t != i) && match ops[t]? with
    | some o => o.after.any fun e => Region.binds md e && e.on == i
    | none => false
/-- A read that each late operation waits for is taken first. -/
theorem wpTill_read {i : Nat} {oi : Oper} {v : Value} (hi : ops[i]? = some oi) (hsel : ∀ (j : Nat) (o : Oper) cs b, ops[j]? = some o → o.op ≠ .select cs b) (hQ : ∀ c a w, Q (.panic c) (a.put oi.dst v) w → Q (.panic c) a w) :
    ∀ (n : Nat) (got : Array Bool) (a : Act) (w : World),
      (∀ j oj, ops[j]? = some oj → j ≠ i → got.getD j true = false → (∀ e ∈ oj.after, Region.binds md e = true → e.on ≠ i) → oi.apart ops oj = true) →
      (∀ t ∈ ls, got.getD t false = false ∧ t ≠ i ∧ ∀ o, ops[t]? = some o → ∃ e ∈ o.after, Region.binds md e = true ∧ e.on = i) →
      i ∈ Region.ready md ops got → YieldsIf P ops S oi v a → S w →
      wpTill P md ops Q S ls n (got.setIfInBounds i true) (a.put oi.dst v) w → wpTill P md ops Q S ls (n + 1) got a w := by
  intro n
  induction n with
  | zero =>
    intro got a w _ _ hr hy hS H
    refine ⟨fun h => absurd (h ▸ hr) (by simp), fun j hj => ?_⟩
    by_cases e : j = i
    · subst e; exact hy.wpOp hi hS ⟨Or.inr hS, H⟩
    · exact absurd (H.1 ▸ ready_mono hj e) (by simp)
  | succ n ih =>
    intro got a w hap hlt hr hy hS H
    refine ⟨fun h => absurd (h ▸ hr) (by simp), fun j hj => ?_⟩
    by_cases e : j = i
    · subst e; exact hy.wpOp hi hS ⟨Or.inr hS, H⟩
    · have hnext := H.2 j (ready_mono hj e)
      obtain ⟨hjg, oj, hoj, hwait⟩ := mem_ready.1 hj
      have hig := (mem_ready.1 hr).1
      have hif : got.getD i false = false := by
        cases hq : got.getD i false with
        | false => rfl
        | true =>
          rcases Nat.lt_or_ge i got.size with hb | hb
          · simp [Array.getD, hb] at hig hq; rw [hig] at hq; cases hq
          · simp [Array.getD, Nat.not_lt.2 hb] at hq
      have hno : ∀ x ∈ oj.after, Region.binds md x = true → x.on ≠ i := fun x hx hb he => by
        have := hwait x hx hb
        rw [he, hif] at this; cases this
      have hjl : j ∉ ls := fun hm => by
        obtain ⟨x, hx, hb, he⟩ := (hlt j hm).2.2 oj hoj
        exact hno x hx hb he
      have hswap := wpOp_putIf hoj (hap j oj hoj e hjg hno) (fun cs b => hsel i oi cs b hi) (fun cs b => hsel j oj cs b hoj) hQ hy hnext
      have hnl : ¬ Late ls ((got.setIfInBounds i true).setIfInBounds j true) := fun ⟨t, ht, hv⟩ => by
        have h1 := hlt t ht
        have hjt : j ≠ t := fun q => hjl (q ▸ ht)
        rw [getD_set_ne _ hjt, getD_set_ne _ (Ne.symm h1.2.1), h1.1] at hv
        cases hv
      refine wpOp_mono (fun a' w' k => ?_) hswap
      have hSw : S w' := k.2.1.resolve_left hnl
      refine ⟨Or.inr hSw, ih (got.setIfInBounds j true) a' w' (fun m om hm hmi hmg hmw => hap m om hm hmi ?_ hmw) (fun t ht => ⟨?_, (hlt t ht).2⟩) (ready_mono hr (Ne.symm e)) k.1 hSw ?_⟩
      · by_cases q : j = m
        · subst q; exact hjg
        · rwa [getD_set_ne true q] at hmg
      · have hjt : j ≠ t := fun q => hjl (by rw [q]; exact ht)
        rw [getD_set_ne _ hjt]; exact (hlt t ht).1
      · rw [Array.setIfInBounds_comm _ _ e]; exact k.2.2
/-- What yields in every world is taken first. -/
theorem wpTill_pure {i : Nat} {oi : Oper} {v : Value} (hi : ops[i]? = some oi) (hsel : ∀ (j : Nat) (o : Oper) cs b, ops[j]? = some o → o.op ≠ .select cs b) (hQ : ∀ c a w, Q (.panic c) (a.put oi.dst v) w → Q (.panic c) a w) (hil : i ∉ ls) :
    ∀ (n : Nat) (got : Array Bool) (a : Act) (w : World),
      (∀ j oj, ops[j]? = some oj → j ≠ i → got.getD j true = false → (∀ e ∈ oj.after, Region.binds md e = true → e.on ≠ i) → oi.apart ops oj = true) →
      i ∈ Region.ready md ops got → YieldsIf P ops (fun _ => True) oi v a → (Late ls got ∨ S w) →
      wpTill P md ops Q S ls n (got.setIfInBounds i true) (a.put oi.dst v) w → wpTill P md ops Q S ls (n + 1) got a w := by
  intro n
  induction n with
  | zero =>
    intro got a w _ hr hy hS H
    refine ⟨fun h => absurd (h ▸ hr) (by simp), fun j hj => ?_⟩
    by_cases e : j = i
    · subst e; exact hy.wpOp hi trivial ⟨hS.imp Late.more id, H⟩
    · exact absurd (H.1 ▸ ready_mono hj e) (by simp)
  | succ n ih =>
    intro got a w hap hr hy hS H
    refine ⟨fun h => absurd (h ▸ hr) (by simp), fun j hj => ?_⟩
    by_cases e : j = i
    · subst e; exact hy.wpOp hi trivial ⟨hS.imp Late.more id, H⟩
    · have hnext := H.2 j (ready_mono hj e)
      obtain ⟨hjg, oj, hoj, hwait⟩ := mem_ready.1 hj
      have hig := (mem_ready.1 hr).1
      have hif : got.getD i false = false := by
        cases hq : got.getD i false with
        | false => rfl
        | true =>
          rcases Nat.lt_or_ge i got.size with hb | hb
          · simp [Array.getD, hb] at hig hq; rw [hig] at hq; cases hq
          · simp [Array.getD, Nat.not_lt.2 hb] at hq
      have hno : ∀ x ∈ oj.after, Region.binds md x = true → x.on ≠ i := fun x hx hb he => by
        have := hwait x hx hb
        rw [he, hif] at this; cases this
      have hswap := wpOp_putIf hoj (hap j oj hoj e hjg hno) (fun cs b => hsel i oi cs b hi) (fun cs b => hsel j oj cs b hoj) hQ hy hnext
      refine wpOp_mono (fun a' w' k => ?_) hswap
      have hSw : Late ls (got.setIfInBounds j true) ∨ S w' := k.2.1.imp (Late.less hil) id
      refine ⟨hSw, ih (got.setIfInBounds j true) a' w' (fun m om hm hmi hmg hmw => hap m om hm hmi ?_ hmw) (ready_mono hr (Ne.symm e)) k.1 hSw ?_⟩
      · by_cases q : j = m
        · subst q; exact hjg
        · rwa [getD_set_ne true q] at hmg
      · rw [Array.setIfInBounds_comm _ _ e]; exact k.2.2
theorem lateB_spec {got : Array Bool} {i : Nat} (h : lateB md ops ls got i = true) : ∀ t ∈ ls, got.getD t false = false ∧ t ≠ i ∧ ∀ o, ops[t]? = some o → ∃ e ∈ o.after, Region.binds md e = true ∧ e.on = i := fun t ht => by
  have := List.all_eq_true.1 h t ht
  simp only [Bool.and_eq_true, Bool.not_eq_true', bne_iff_ne, ne_eq] at this
  obtain ⟨⟨h1, h2⟩, h3⟩ := this
  refine ⟨h1, h2, fun o ho => ?_⟩
  rw [ho] at h3
  obtain ⟨e, he, hb⟩ := Array.any_eq_true'.1 h3
  simp only [Bool.and_eq_true, beq_iff_eq] at hb
  exact ⟨e, he, hb.1, hb.2⟩
/-- For walks: a read. -/
theorem wpTill_take {i : Nat} {oi : Oper} {v : Value} {n : Nat} {got : Array Bool} {a : Act} {w : World} (hi : ops[i]? = some oi) (hs : Region.noSelect ops = true) (hf : Region.free md ops got i = true) (hr : (Region.ready md ops got).contains i = true) (hl : lateB md ops ls got i = true)
    (hQ : ∀ c a w, Q (.panic c) (a.put oi.dst v) w → Q (.panic c) a w) (hy : YieldsIf P ops S oi v a) (hS : S w) (h : wpTill P md ops Q S ls n (got.setIfInBounds i true) (a.put oi.dst v) w) : wpTill P md ops Q S ls (n + 1) got a w :=
  wpTill_read hi (Region.noSelect_spec hs) hQ n got a w (Region.free_spec hi hf) (lateB_spec hl) (by simpa using hr) hy hS h
/-- .. what reads nothing. -/
theorem wpTill_free {i : Nat} {oi : Oper} {v : Value} {n : Nat} {got : Array Bool} {a : Act} {w : World} (hi : ops[i]? = some oi) (hs : Region.noSelect ops = true) (hf : Region.free md ops got i = true) (hr : (Region.ready md ops got).contains i = true) (hl : (!ls.contains i) = true)
    (hQ : ∀ c a w, Q (.panic c) (a.put oi.dst v) w → Q (.panic c) a w) (hy : YieldsIf P ops (fun _ => True) oi v a) (hS : S w) (h : wpTill P md ops Q S ls n (got.setIfInBounds i true) (a.put oi.dst v) w) : wpTill P md ops Q S ls (n + 1) got a w :=
  wpTill_pure hi (Region.noSelect_spec hs) hQ (by simpa using hl) n got a w (Region.free_spec hi hf) (by simpa using hr) hy (Or.inr hS) h
end
end Go.Proofs.YtgelalbmhllccaaGreat
