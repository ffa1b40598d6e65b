/- The document's own frames, read: the reader's states. -/
import Derived.Test.YtgkihfemlbhioaaDoorGw1
import Derived.Test.YtgkihfemlbhioaaDoorFk1
import Derived.Test.YtgkihfemlbhioaaDoorFs5
import Derived.Test.YtgkihfemlbhioaaDoorCref
import Derived.Great.BuildSlice
import Derived.Deep.DeepCutAuto
import Derived.Deep.CutBlock
namespace Go.Proofs.YtgkihfemlbhioaaDoor
open Go.RowKit Fr Crc
set_option linter.unusedVariables false
set_option linter.unusedSimpArgs false
theorem Rd.turned {w w' : World} {g : Nat} {L : List Nat} {bad : Bool} {G : Nat → Prop} (h : Rd w g L bad) (k : Turned G w w') (hn : ∀ b, G b → g < b) : Rd w' g L bad := by
  obtain ⟨A, c, h1, h2, h3, h4⟩ := h
  refine ⟨A, c, (k.block g (Array.getElem?_eq_some_iff.1 h1).1 (fun e => by have := hn _ e; omega)).trans h1, ⟨h2.1, h2.2.1, fun hp => ?_⟩, h3, h4⟩
  obtain ⟨b, off, e, hb, hc⟩ := h2.2.2 hp
  exact ⟨b, off, e, hb, fun i hi => k.cell (hc i hi) (fun e => by have h := hn _ e; exact absurd h (by show ¬ g < b; omega))⟩
/-- A reader: what is left, or none, if there was too little. -/
def RdO (w : World) (g : Nat) (st : Option (List Nat)) : Prop := match st with
  | some L => Rd w g L false
  | none => ∃ L, Rd w g L true
theorem RdO.turned {w w' : World} {g : Nat} {st : Option (List Nat)} {G : Nat → Prop} (h : RdO w g st) (k : Turned G w w') (hn : ∀ b, G b → g < b) : RdO w' g st := by
  cases st with
  | some L => exact Rd.turned h k hn
  | none => obtain ⟨L, h⟩ := h; exact ⟨L, h.turned k hn⟩
theorem RdO.lt {w : World} {g : Nat} {st : Option (List Nat)} (h : RdO w g st) : g < w.heap.size := by
  cases st with
  | some L => exact Rd.lt h
  | none => obtain ⟨L, h⟩ := h; exact h.lt
theorem rnumS (w : World) (g k : Nat) (st : Option (List Nat)) (h : RdO w g st) (h8 : k ≤ 8) :
    Calls Tryd.prog 26 #[.pointer (some ⟨g, 0, none⟩), .int .i64 (k : Int)] w fun e w' => ∃ (v : Nat) (st' : Option (List Nat)), e = .returned (.int .u64 (v : Int)) ∧ v < 256 ^ k ∧ RdO w' g st' ∧ w.grownBy w' (some g) ∧ ∀ (α : Type) (q : Nat → Pa α), goO st ((numP k).bind q) = goO st' (q v) := by
  have lt : ∀ L, AllB L → k ≤ L.length → valN (L.take k) < 256 ^ k := fun L ha hk => by
    have h1 := valN_lt (L.take k) (ha.take k)
    rw [List.length_take, Nat.min_eq_left hk] at h1
    exact h1
  cases st with
  | some L =>
    have h : Rd w g L false := h
    by_cases hk : k ≤ L.length
    · refine (rnum_in w g k L false h hk h8).mono ?_
      rintro e w' ⟨rfl, r, gg⟩
      exact ⟨_, some (L.drop k), rfl, lt L h.all hk, r, gg, fun α q => by rw [go_num, nxtO, if_pos hk, nxtN, if_pos hk]⟩
    · refine (rnum_short w g k L false h (by omega)).mono ?_
      rintro e w' ⟨rfl, r, gg⟩
      exact ⟨0, none, rfl, Nat.pow_pos (by decide), ⟨L, r⟩, gg, fun α q => by rw [go_num, nxtO, if_neg hk]; rfl⟩
  | none =>
    obtain ⟨L, h⟩ := h
    by_cases hk : k ≤ L.length
    · refine (rnum_in w g k L true h hk h8).mono ?_
      rintro e w' ⟨rfl, r, gg⟩
      exact ⟨_, none, rfl, lt L h.all hk, ⟨_, r⟩, gg, fun α q => rfl⟩
    · refine (rnum_short w g k L true h (by omega)).mono ?_
      rintro e w' ⟨rfl, r, gg⟩
      exact ⟨0, none, rfl, Nat.pow_pos (by decide), ⟨L, r⟩, gg, fun α q => rfl⟩
theorem rtakeS (w : World) (g k : Nat) (st : Option (List Nat)) (h : RdO w g st) :
    Calls Tryd.prog 27 #[.pointer (some ⟨g, 0, none⟩), .int .i64 (k : Int)] w fun e w' => ∃ (A : Option Addr) (n c : Nat) (xs : List Nat) (st' : Option (List Nat)), e = .returned (.slice A n c) ∧ n ≤ k ∧ Own w' w.heap.size 5 A n c xs ∧ RdO w' g st' ∧ w.grownBy w' (some g) ∧ ∀ (α : Type) (q : List Nat → Pa α), goO st ((takeP k).bind q) = goO st' (q xs) := by
  cases st with
  | some L =>
    have h : Rd w g L false := h
    by_cases hk : k ≤ L.length
    · refine (rtake_in w g k L false h hk).mono ?_
      rintro e w' ⟨A, c, rfl, o, r, gg⟩
      exact ⟨A, k, c, _, some (L.drop k), rfl, Nat.le_refl _, o, r, gg, fun α q => by rw [go_take, nxtO, if_pos hk, nxtB, if_pos hk]⟩
    · refine (rtake_short w g k L false h (by omega)).mono ?_
      rintro e w' ⟨A, c, rfl, o, r, gg⟩
      exact ⟨A, 0, c, _, none, rfl, Nat.zero_le _, o, ⟨L, r⟩, gg, fun α q => by rw [go_take, nxtO, if_neg hk]; rfl⟩
  | none =>
    obtain ⟨L, h⟩ := h
    by_cases hk : k ≤ L.length
    · refine (rtake_in w g k L true h hk).mono ?_
      rintro e w' ⟨A, c, rfl, o, r, gg⟩
      exact ⟨A, k, c, _, none, rfl, Nat.le_refl _, o, ⟨_, r⟩, gg, fun α q => rfl⟩
    · refine (rtake_short w g k L true h (by omega)).mono ?_
      rintro e w' ⟨A, c, rfl, o, r, gg⟩
      exact ⟨A, 0, c, _, none, rfl, Nat.zero_le _, o, ⟨L, r⟩, gg, fun α q => rfl⟩
/-- A state of the walk: the result's box, the reader, the frame so far. -/
structure Tk (W : World) (g2 g gf : Nat) (w : World) (st : Option (List Nat)) (m : FrM) (f : FrV) : Prop where
  rd : RdO w g st
  res : FrBox w g2 32 noM noF
  box : FrBox w gf 32 m f
  o1 : W.heap.size ≤ g2
  o2 : g2 < g
  o3 : g < gf
  kp : Keep W w
section
variable {W w w' : World} {g2 g gf : Nat} {st st' : Option (List Nat)} {m m' : FrM} {f f' : FrV}
theorem turned_grown {row : Nat} (h : w.grownBy w' (some row)) : Turned (fun b => b = row) w w' := Turned.of_grown h (fun i e => by injection e with e; exact e.symm)
theorem Tk.next (s : Tk W g2 g gf w st m f) (r : RdO w' g st') (h : w.grownBy w' (some g)) : Tk W g2 g gf w' st' m f :=
  ⟨r, s.res.turned (turned_grown h) (by have := s.o2; omega), s.box.turned (turned_grown h) (by have := s.o3; omega), s.o1, s.o2, s.o3, (turned_grown h).keep s.kp (fun i e => by have := s.o1; have := s.o2; omega)⟩
theorem Tk.set (s : Tk W g2 g gf w st m f) (i : Nat) (v : Value) (e : (frCells m f).setIfInBounds i v = frCells m' f') : Tk W g2 g gf (w.setCell ⟨gf, i, none⟩ v) st m' f' := by
  have T : Turned (fun b => b = gf) w (w.setCell ⟨gf, i, none⟩ v) := Turned.set w _ _ rfl
  exact ⟨s.rd.turned T (fun b hb => by have := s.o3; omega), s.res.turned T (by have := s.o2; have := s.o3; omega), s.box.set i v e, s.o1, s.o2, s.o3, T.keep s.kp (fun i e => by have := s.o1; have := s.o2; have := s.o3; omega)⟩
theorem Tk.turned {G : Nat → Prop} (s : Tk W g2 g gf w st m f) (k : Turned G w w') (hG : ∀ b, G b → gf < b) : Tk W g2 g gf w' st m f :=
  ⟨s.rd.turned k (fun b hb => by have := hG b hb; have := s.o3; omega), s.res.turned k (fun e => by have := hG _ e; have := s.o2; have := s.o3; omega), s.box.turned k (fun e => by have := hG _ e; omega), s.o1, s.o2, s.o3, k.keep s.kp (fun i e => by have := hG i e; have := s.o1; have := s.o2; have := s.o3; omega)⟩
theorem Tk.keep (s : Tk W g2 g gf w st m f) (k : Keep w w') : Tk W g2 g gf w' st m f := s.turned (G := fun _ => False) (Turned.of_keep k) (fun _ e => e.elim)
end
theorem rnum1 {W w : World} {g2 g gf : Nat} {st : Option (List Nat)} {m : FrM} {f : FrV} (s : Tk W g2 g gf w st m f) :
    Calls Tryd.prog 26 #[.pointer (some ⟨g, 0, none⟩), .int .i64 1] w fun e w' => ∃ (v : Nat) (st' : Option (List Nat)), e = .returned (.int .u64 (v : Int)) ∧ v < 256 ∧ Tk W g2 g gf w' st' m f ∧ Turned (fun b => b = g) w w' ∧ ∀ (α : Type) (q : Nat → Pa α), goO st ((numP 1).bind q) = goO st' (q v) :=
  (rnumS w g 1 st s.rd (by decide)).mono fun e w' ⟨v, st', h1, h2, h3, h4, h5⟩ => ⟨v, st', h1, h2, s.next h3 h4, turned_grown h4, h5⟩
theorem rnum2 {W w : World} {g2 g gf : Nat} {st : Option (List Nat)} {m : FrM} {f : FrV} (s : Tk W g2 g gf w st m f) :
    Calls Tryd.prog 26 #[.pointer (some ⟨g, 0, none⟩), .int .i64 2] w fun e w' => ∃ (v : Nat) (st' : Option (List Nat)), e = .returned (.int .u64 (v : Int)) ∧ v < 65536 ∧ Tk W g2 g gf w' st' m f ∧ Turned (fun b => b = g) w w' ∧ ∀ (α : Type) (q : Nat → Pa α), goO st ((numP 2).bind q) = goO st' (q v) :=
  (rnumS w g 2 st s.rd (by decide)).mono fun e w' ⟨v, st', h1, h2, h3, h4, h5⟩ => ⟨v, st', h1, h2, s.next h3 h4, turned_grown h4, h5⟩
theorem rnum8 {W w : World} {g2 g gf : Nat} {st : Option (List Nat)} {m : FrM} {f : FrV} (s : Tk W g2 g gf w st m f) :
    Calls Tryd.prog 26 #[.pointer (some ⟨g, 0, none⟩), .int .i64 8] w fun e w' => ∃ (v : Nat) (st' : Option (List Nat)), e = .returned (.int .u64 (v : Int)) ∧ v < 18446744073709551616 ∧ Tk W g2 g gf w' st' m f ∧ Turned (fun b => b = g) w w' ∧ ∀ (α : Type) (q : Nat → Pa α), goO st ((numP 8).bind q) = goO st' (q v) :=
  (rnumS w g 8 st s.rd (by decide)).mono fun e w' ⟨v, st', h1, h2, h3, h4, h5⟩ => ⟨v, st', h1, h2, s.next h3 h4, turned_grown h4, h5⟩
theorem rtakeT {W w : World} {g2 g gf : Nat} {st : Option (List Nat)} {m : FrM} {f : FrV} (s : Tk W g2 g gf w st m f) (k : Nat) :
    Calls Tryd.prog 27 #[.pointer (some ⟨g, 0, none⟩), .int .i64 (k : Int)] w fun e w' => ∃ (A : Option Addr) (n c : Nat) (xs : List Nat) (st' : Option (List Nat)), e = .returned (.slice A n c) ∧ n ≤ k ∧ Own w' w.heap.size 5 A n c xs ∧ Tk W g2 g gf w' st' m f ∧ Turned (fun b => b = g) w w' ∧ ∀ (α : Type) (q : List Nat → Pa α), goO st ((takeP k).bind q) = goO st' (q xs) :=
  (rtakeS w g k st s.rd).mono fun e w' ⟨A, n, c, xs, st', h1, h2, h3, h4, h5, h6⟩ => ⟨A, n, c, xs, st', h1, h2, h3, s.next h4 h5, turned_grown h5, h6⟩
/-- What is told at the end. -/
def EndTold (xs L : List Nat) (W : World) : Prop :=
  ((∀ v, readF L = some v → False) → ∀ w', Keep W w' → TakeTold xs W (.returned (.tuple #[.agg (frCells noM noF), .int .i64 5])) w') ∧
    ∀ (m : FrM) (f : FrV), readF L = some f → ∀ w', Keep W w' → FrIn w' w'.heap.size m f → TakeTold xs W (.returned (.tuple #[.agg (frCells m f), .int .i64 0])) w'
theorem end_told {xs : List Nat} {W : World} (h1 : ¬ 70000 < xs.length) (h2 : openErr xs = 0) : EndTold xs (openVal xs) W := by
  have htk : tkE xs = if (readF (openVal xs)).isSome = true then 0 else 5 := by rw [tkE, if_neg h1, if_pos h2]
  refine ⟨fun hno w' k => ?_, fun m f hr w' k hi => ?_⟩
  · have e5 : tkE xs = 5 := by
      rw [htk]
      cases hr : readF (openVal xs) with
      | none => rfl
      | some v => exact (hno v hr).elim
    exact take_none (by rw [e5]; rfl) (by rw [e5]; decide) k
  · have e0 : tkE xs = 0 := by rw [htk, hr]; rfl
    have e1 : tkV xs = f := by rw [show tkV xs = (readF (openVal xs)).getD noF from if_pos e0, hr]; rfl
    exact ⟨m, by rw [e0, e1]; rfl, by rw [e1]; exact hi, k⟩
/-- From what is read to what is told. -/
theorem reads_end {L : List Nat} {st : Option (List Nat)} {f : FrV} (hp : parseF L = goO st (Pa.ret f) ∨ (parseF L = none ∧ ¬ MayF f)) :
    ((st ≠ some [] ∨ ¬ MayF f) → ∀ v, readF L = some v → False) ∧ (st = some [] → MayF f → readF L = some f) := by
  refine ⟨fun h v hv => ?_, fun h hm => ?_⟩
  · unfold readF at hv
    rcases hp with hp | ⟨hp, h2⟩
    · rw [hp] at hv
      cases st with
      | none => cases hv
      | some M =>
        cases M with
        | nil =>
          rcases h with h | h
          · exact h rfl
          · have hv : (if MayF f then some f else none) = some v := hv
            rw [if_neg h] at hv
            cases hv
        | cons a M => cases hv
    · rw [hp] at hv
      cases hv
  · subst h
    rcases hp with hp | ⟨hp, h2⟩
    · unfold readF
      rw [hp]
      show (if MayF f then some f else none) = some f
      rw [if_pos hm]
    · exact absurd hm h2
end Go.Proofs.YtgkihfemlbhioaaDoor
/- The document's own frames, read: how a walk ends. -/
namespace Go.Proofs.YtgkihfemlbhioaaDoor
open Go.RowKit Fr Crc
set_option linter.unusedVariables false
set_option linter.unusedSimpArgs false
def isReg (n : Nat) : Code → Bool
  | .region k _ _ => k == n
  | .seq a _ => isReg n a
  | _ => false
def tailOf (n : Nat) : Code → Code
  | .seq a b => if isReg n a then .seq a b else tailOf n b
  | c => c
def headOf : Code → Code
  | .seq a _ => a
  | c => c
def restOf : Code → Code
  | .seq _ b => b
  | c => c
noncomputable def endCode : Code := headOf (headOf (tailOf 50 (Tryd.f12.body.getD .skip)))
noncomputable def endCond : Code := restOf (headOf (tailOf 50 (Tryd.f12.body.getD .skip)))
noncomputable def endRest : Code := restOf (tailOf 50 (Tryd.f12.body.getD .skip))
noncomputable def kindCode : Code := tailOf 12 (Tryd.f12.body.getD .skip)
theorem resRTake : Tryd.f12.results = #[.cell 2 32, .tmp 3] := by kernel_rfl
set_option maxRecDepth 100000 in
set_option maxHeartbeats 16000000 in
theorem rtk_end (xs L : List Nat) (W w : World) (g2 g gf : Nat) (st : Option (List Nat)) (m : FrM) (f : FrV) (hS : Tk W g2 g gf w st m f) (hC : ∀ (G : Nat → Prop) (w' : World), Turned G w w' → (∀ b, G b → b ≤ gf) → FrIn w' w'.heap.size m f)
    (hp : parseF L = goO st (Pa.ret f) ∨ (parseF L = none ∧ ¬ MayF f)) (hE : EndTold xs L W) (s0 s1 s3 s4 s5 s8 s9 s10 s11 s12 s13 s14 s15 s16 s17 s18 s19 s20 s21 s22 s23 s24 s25 s26 s27 s28 s29 s30 s31 s32 s33 s34 s35 s36 s37 s38 s39 s40 s41 s42 s43 s44 s45 s46 s47 s48 s49 s50 s51 s52 s53 s54 s55 s56 s57 s58 s59 s60 s61 s62 s63 s64 s65 s66 s67 s68 s69 s70 s71 s72 s73 s74 s75 s76 s77 s78 s79 s80 s81 s82 s83 s84 s85 s86 s87 s88 s89 s90 s91 s92 s93 s94 s95 s96 s97 s98 s99 s100 s101 s102 s103 s104 s105 s106 s107 s108 s109 s110 s111 s112 s113 s114 s115 s116 s117 s118 s119 s120 s121 s122 s123 s124 s125 s126 s127 s128 s129 s130 s131 s132 s133 s134 s135 s136 s137 s138 s139 s140 s141 s142 s143 s144 s145 s146 s147 s148 s149 s150 s151 s152 s153 s154 s155 s156 s157 s158 s159 s160 s161 s162 s163 s164 s165 s166 s167 s168 s169 s170 s171 s172 s173 s174 s175 s176 s177 s178 s179 s180 s181 s182 s183 s184 s185 s186 s187 s188 s189 s190 s191 s192 s193 s194 s195 s196 s197 s198 s199 s200 s201 s202 s203 s204 s205 s206 s207 s208 s209 s210 s211 s212 s213 s214 s215 s216 s217 s218 s219 s220 s221 s222 s223 s224 s225 s226 s227 s228 s229 s230 s231 s232 s233 s234 s235 s236 s237 s238 s239 s240 s241 s242 s243 s244 s245 s246 : Value) (K2 K : Act → World → Prop) (hK2 : ∀ a w', Code.wp Tryd.prog endCond (Exit.then K (bodyPost Tryd.prog Tryd.f12 (TakeTold xs W))) a w' → K2 a w') (hK : ∀ a w', Code.wp Tryd.prog endRest (bodyPost Tryd.prog Tryd.f12 (TakeTold xs W)) a w' → K a w') :
    Code.wp Tryd.prog endCode (Exit.then K2 (Exit.then K (bodyPost Tryd.prog Tryd.f12 (TakeTold xs W)))) { tmps := #[s0, s1, .pointer (some ⟨g2, 0, none⟩), s3, s4, s5, .pointer (some ⟨g, 0, none⟩), .pointer (some ⟨gf, 0, none⟩), s8, s9, s10, s11, s12, s13, s14, s15, s16, s17, s18, s19, s20, s21, s22, s23, s24, s25, s26, s27, s28, s29, s30, s31, s32, s33, s34, s35, s36, s37, s38, s39, s40, s41, s42, s43, s44, s45, s46, s47, s48, s49, s50, s51, s52, s53, s54, s55, s56, s57, s58, s59, s60, s61, s62, s63, s64, s65, s66, s67, s68, s69, s70, s71, s72, s73, s74, s75, s76, s77, s78, s79, s80, s81, s82, s83, s84, s85, s86, s87, s88, s89, s90, s91, s92, s93, s94, s95, s96, s97, s98, s99, s100, s101, s102, s103, s104, s105, s106, s107, s108, s109, s110, s111, s112, s113, s114, s115, s116, s117, s118, s119, s120, s121, s122, s123, s124, s125, s126, s127, s128, s129, s130, s131, s132, s133, s134, s135, s136, s137, s138, s139, s140, s141, s142, s143, s144, s145, s146, s147, s148, s149, s150, s151, s152, s153, s154, s155, s156, s157, s158, s159, s160, s161, s162, s163, s164, s165, s166, s167, s168, s169, s170, s171, s172, s173, s174, s175, s176, s177, s178, s179, s180, s181, s182, s183, s184, s185, s186, s187, s188, s189, s190, s191, s192, s193, s194, s195, s196, s197, s198, s199, s200, s201, s202, s203, s204, s205, s206, s207, s208, s209, s210, s211, s212, s213, s214, s215, s216, s217, s218, s219, s220, s221, s222, s223, s224, s225, s226, s227, s228, s229, s230, s231, s232, s233, s234, s235, s236, s237, s238, s239, s240, s241, s242, s243, s244, s245, s246], defers := [] } w := by
  have HS := Lib.hid hS
  have HC := Lib.hid hC
  obtain ⟨r1, r2⟩ := reads_end hp
  have R1 := Lib.hid r1
  have R2 := Lib.hid r2
  have E1 := Lib.hid hE.1
  have E2 := Lib.hid hE.2
  have HRES := Lib.hid hS.res
  have HRD := Lib.hid hS.rd
  have FAIL : Hid (∀ w', Keep w w' → FrBox w' g2 32 noM noF → (st ≠ some [] ∨ ¬ MayF f) → TakeTold xs W (.returned (.tuple #[.agg #[.int .i64 0, .int .i64 0, .int .i64 0, .int .u64 0, .int .u64 0, .int .i64 0, .int .u64 0, .int .u64 0, .int .u64 0, .slice none 0 0, .slice none 0 0, .slice none 0 0, .int .u64 0, .slice none 0 0, .slice none 0 0], .int .i64 5])) (w'.setRow g2 #[.int .i64 0, .int .i64 0, .int .i64 0, .int .u64 0, .int .u64 0, .int .i64 0, .int .u64 0, .int .u64 0, .int .u64 0, .slice none 0 0, .slice none 0 0, .slice none 0 0, .int .u64 0, .slice none 0 0, .slice none 0 0])) := fun w' k hb hn =>
    hE.1 (r1 hn) _ ((hS.kp.trans k).setRow hS.o1 hb)
  have GOOD : Hid (∀ w', Keep w w' → FrBox w' g2 32 noM noF → st = some [] → MayF f → TakeTold xs W (.returned (.tuple #[.agg (frCells m f), .int .i64 0])) (w'.setRow g2 (frCells m f))) := fun w' k hb h1 h2 =>
    hE.2 m f (r2 h1 h2) _ ((hS.kp.trans k).setRow hS.o1 hb) (hC (fun b => b = g2) _ ((Turned.of_keep (F := fun b => b = g2) k).trans (turned_row w' g2 _) (fun b e => Or.inl e)) (fun b e => by have := hS.o2; have := hS.o3; omega))
  clear hS hC hp hE r1 r2 R1 R2 E1 E2
  conv => arg 2; whnf
  cases st with
  | none =>
    obtain ⟨L', A, c, h1, _⟩ := HRD.out
    obtain ⟨c1, c2, _, _⟩ := two_cells h1
    have FN := Lib.hid (FAIL.out w (Keep.refl _) HRES.out (Or.inl (by simp)))
    have rb := HRES.out
    unfold FrBox at rb
    clear h1 c1 FAIL GOOD
    go_wp2_with fail
    conv => arg 2; whnf
    go_wp2_with (refine Go.wpList_store_rowTo rfl 32 (.tmp 2) (.tmp 245) rfl rfl g2 #[.int .i64 0, .int .i64 0, .int .i64 0, .int .u64 0, .int .u64 0, .int .i64 0, .int .u64 0, .int .u64 0, .int .u64 0, .slice none 0 0, .slice none 0 0, .slice none 0 0, .int .u64 0, .slice none 0 0, .slice none 0 0] rfl rfl 32 _ rb infoFr rfl (by kernel_rfl) ?_)
    refine bodyPost_ret (results_cell_two (p := 2) (u := 3) (ty := 32) resRTake _ _ g2 32 _ (0, 0) _ rfl (setRow_heap _ _ _ _ _ _ HRES.out) Tryd.underlying32 rfl infoFr) rfl ?_
    exact FN.out
  | some L' =>
    have hrd : Rd w g L' false := HRD.out
    obtain ⟨A, c, h1, _⟩ := hrd
    obtain ⟨c1, c2, _, _⟩ := two_cells h1
    clear h1
    by_cases h0 : L' = []
    · subst h0
      have KL : Hid (Keep w w) := Keep.refl w
      have HBX := Lib.hid (fun wr (kr : Keep w wr) => (HS.out.keep kr).box)
      have HFI := Lib.hid (HC.out (fun _ => False) w (Turned.refl _ _) (fun _ e => e.elim))
      have HM := Lib.hid (rmay_any m f w HFI.out)
      obtain ⟨may, hmay⟩ : ∃ x, decide (MayF f) = x := ⟨_, rfl⟩
      rw [hmay] at HM
      have HY : Hid (may = true → MayF f) := fun e => of_decide_eq_true (hmay.trans e)
      have HNO : Hid (may = false → ¬ MayF f) := fun e => of_decide_eq_false (hmay.trans e)
      clear hmay HFI
      obtain ⟨k, s, d, ep, lf, fl, gn, sq, fo, co, pay, rk, te, up, hp⟩ := f
      obtain ⟨⟨Ac, nc, cc⟩, ⟨Ap, np, cp⟩, ⟨Ar, nr, cr⟩, ⟨Au, nu, cu⟩, ⟨Ah, nh, ch⟩⟩ := m
      simp only [frCells] at HM GOOD
      obtain ⟨⟨x0, x1, x2, x3, x4⟩, ⟨x5, x6, x7, x8⟩, ⟨x9, x10, x11⟩, x12, x13, x14⟩ := (HBX.out w KL.out).cells
      dsimp only at x0 x1 x2 x3 x4 x5 x6 x7 x8 x9 x10 x11 x12 x13 x14
      have b0 : ¬ (0 : Int) < (([] : List Nat).length : Int) := by simp
      have b1 : decide ((0 : Int) < (([] : List Nat).length : Int)) = false := decide_eq_false b0
      go_wp2_with fail
      refine HM.out.mono ?_
      rintro e w5 ⟨rfl, k5⟩
      have K5 := Lib.hid k5
      have rb5 : w5.heap[g2]? = _ := HRES.out.keep k5
      have RB5 := Lib.hid rb5
      clear x0 x1 x2 x3 x4 x5 x6 x7 x8 x9 x10 x11 x12 x13 x14 k5 c1 c2
      cases may with
      | false =>
        have FN := Lib.hid (FAIL.out w5 K5.out RB5.out (Or.inr (HNO.out (by first | rfl | trivial))))
        clear FAIL GOOD
        go_wp2_with fail
        conv => arg 2; whnf
        go_wp2_with (refine Go.wpList_store_rowTo rfl 32 (.tmp 2) (.tmp 245) rfl rfl g2 #[.int .i64 0, .int .i64 0, .int .i64 0, .int .u64 0, .int .u64 0, .int .i64 0, .int .u64 0, .int .u64 0, .int .u64 0, .slice none 0 0, .slice none 0 0, .slice none 0 0, .int .u64 0, .slice none 0 0, .slice none 0 0] rfl rfl 32 _ rb5 infoFr rfl (by kernel_rfl) ?_)
        refine bodyPost_ret (results_cell_two (p := 2) (u := 3) (ty := 32) resRTake _ _ g2 32 _ (0, 0) _ rfl (setRow_heap _ _ _ _ _ _ RB5.out) Tryd.underlying32 rfl infoFr) rfl ?_
        exact FN.out
      | true =>
        obtain ⟨⟨x0, x1, x2, x3, x4⟩, ⟨x5, x6, x7, x8⟩, ⟨x9, x10, x11⟩, x12, x13, x14⟩ := (HBX.out w5 K5.out).cells
        dsimp only at x0 x1 x2 x3 x4 x5 x6 x7 x8 x9 x10 x11 x12 x13 x14
        have FG := Lib.hid (GOOD.out w5 K5.out RB5.out (by first | rfl | trivial) (HY.out (by first | rfl | trivial)))
        clear FAIL GOOD
        go_wp2_with fail
        conv => arg 2; whnf
        go_wp2_with fail
        conv => arg 2; whnf
        go_wp2_with (refine Go.wpList_store_rowTo rfl 32 (.tmp 2) (.tmp 246) rfl rfl g2 #[.int .i64 k, .int .i64 s, .int .i64 d, .int .u64 (ep : Int), .int .u64 (lf : Int), .int .i64 fl, .int .u64 (gn : Int), .int .u64 (sq : Int), .int .u64 (fo : Int), .slice Ac nc cc, .slice Ap np cp, .slice Ar nr cr, .int .u64 (te : Int), .slice Au nu cu, .slice Ah nh ch] rfl rfl 32 _ RB5.out infoFr rfl (by kernel_rfl) ?_)
        refine bodyPost_ret (results_cell_two (p := 2) (u := 3) (ty := 32) resRTake _ _ g2 32 _ (0, 0) _ rfl (setRow_heap _ _ _ _ _ _ RB5.out) Tryd.underlying32 rfl infoFr) rfl ?_
        exact FG.out
    · have hl : 0 < L'.length := List.length_pos_iff.2 h0
      have b0 : (0 : Int) < (L'.length : Int) := by omega
      have b1 : decide ((0 : Int) < (L'.length : Int)) = true := decide_eq_true b0
      have FN := Lib.hid (FAIL.out w (Keep.refl _) HRES.out (Or.inl (fun e => h0 (by injection e))))
      have rb := HRES.out
      unfold FrBox at rb
      clear FAIL GOOD h0
      go_wp2_with fail
      conv => arg 2; whnf
      go_wp2_with (refine Go.wpList_store_rowTo rfl 32 (.tmp 2) (.tmp 245) rfl rfl g2 #[.int .i64 0, .int .i64 0, .int .i64 0, .int .u64 0, .int .u64 0, .int .i64 0, .int .u64 0, .int .u64 0, .int .u64 0, .slice none 0 0, .slice none 0 0, .slice none 0 0, .int .u64 0, .slice none 0 0, .slice none 0 0] rfl rfl 32 _ rb infoFr rfl (by kernel_rfl) ?_)
      refine bodyPost_ret (results_cell_two (p := 2) (u := 3) (ty := 32) resRTake _ _ g2 32 _ (0, 0) _ rfl (setRow_heap _ _ _ _ _ _ HRES.out) Tryd.underlying32 rfl infoFr) rfl ?_
      exact FN.out
end Go.Proofs.YtgkihfemlbhioaaDoor
/- The document's own frames, read: what stays. -/
namespace Go.Proofs.YtgkihfemlbhioaaDoor
open Go.RowKit Fr Crc
set_option linter.unusedVariables false
set_option linter.unusedSimpArgs false
theorem own_stay {w0 w1 w' : World} {G : Nat → Prop} {g gf base k c : Nat} {A : Option Addr} {xs : List Nat} (o : Own w0 base 5 A k c xs) (tk : Turned (fun b => b = g ∨ b = gf) w0 w1) (hg : g < gf) (kG : Turned G w1 w') (hG : ∀ b, G b → b ≤ gf) (hb : gf < base) : Own w' base 5 A k c xs :=
  o.turned (F := fun b => b ≤ gf) ((Turned.mono tk (F' := fun b => b ≤ gf) (fun i _ e => by rcases e with e | e <;> omega)).trans kG (fun b e => Or.inl (hG b e))) (fun b hb' e => by have := o.rowLe b hb'; omega)
theorem owns_stay {w0 w1 w' : World} {G : Nat → Prop} {g gf base e size n : Nat} {v : Value} {l : List Value} (o : w0.ownsRow base e size v n l) (tk : Turned (fun b => b = g ∨ b = gf) w0 w1) (hg : g < gf) (kG : Turned G w1 w') (hG : ∀ b, G b → b ≤ gf) (hb : gf < base) : w'.ownsRow base e size v n l :=
  ((Turned.mono tk (F' := fun b => b ≤ gf) (fun i _ e => by rcases e with e | e <;> omega)).trans kG (fun b e => Or.inl (hG b e))).owns o (fun b hb' e => by have := (World.ownsRow.lt o b hb').1; omega)
theorem ManyS.stop {α : Type} {p : Pa α} {o oj : Option (List Nat)} {c j : Nat} {es : List α} (h : ManyS p o c j es oj) (hx : oj = none ∨ j = c) (β : Type) (R : List α → Pa β) : goO o ((manyP p c).bind R) = goO oj (R es) := by
  rcases hx with e | e
  · rw [h β R, e]; rfl
  · subst e; exact h.end_ β R
end Go.Proofs.YtgkihfemlbhioaaDoor
/- The document's own frames, read: marks and lists of edges. -/
namespace Go.Proofs.YtgkihfemlbhioaaDoor
open Go.RowKit Fr Crc
set_option linter.unusedVariables false
set_option linter.unusedSimpArgs false
theorem Tk.mark {W w : World} {g2 g gf : Nat} {st : Option (List Nat)} {m : FrM} {f : FrV} (s : Tk W g2 g gf w st m f) (b : Bool) (hb : st = none → b = true) : Tk W g2 g gf (w.setCell ⟨g, 1, none⟩ (.bool b)) (if b = true then none else st) m f := by
  have T : Turned (fun x => x = g) w (w.setCell ⟨g, 1, none⟩ (.bool b)) := Turned.set w _ _ rfl
  have main : ∀ (L : List Nat) (bad : Bool), Rd w g L bad → Rd (w.setCell ⟨g, 1, none⟩ (.bool b)) g L b := fun L bad h => by
    obtain ⟨A, c, h1, h2, h3, h4⟩ := h
    exact ⟨A, c, two_set (i := 1) h1 (.bool b), h2.set (i := 1) (Nat.le_refl g) (.bool b), h3, h4⟩
  refine ⟨?_, s.res.turned T (by have := s.o2; omega), s.box.turned T (by have := s.o3; omega), s.o1, s.o2, s.o3, T.keep s.kp (fun i e => by have := s.o1; have := s.o2; omega)⟩
  cases st with
  | none =>
    obtain ⟨L, h⟩ := s.rd
    have e := hb rfl
    subst e
    exact ⟨L, main L _ h⟩
  | some L =>
    cases b with
    | true => exact ⟨L, main L _ s.rd⟩
    | false => exact main L _ s.rd
theorem go_upS {β : Type} (stT : Option (List Nat)) (us : List Nat) (R : List Bool → Pa β) : goO stT ((upQ us).bind R) = goO (if us.all (· ≤ 1) = true then stT else none) (R (us.map (· == 1))) := by
  cases stT with
  | none => split <;> rfl
  | some L =>
    show (upQ us).bind R L = _
    unfold Pa.bind upQ
    by_cases hb : us.all (· ≤ 1) = true
    · rw [if_pos hb, if_pos hb]; rfl
    · rw [if_neg hb, if_neg hb]; rfl
theorem all_take_succ (us : List Nat) (i : Nat) (x : Nat) (h : us[i]? = some x) : (us.take (i + 1)).all (· ≤ 1) = ((us.take i).all (· ≤ 1) && decide (x ≤ 1)) := by
  rw [List.take_add_one, h]
  simp
/-- Marks, and lists of edges, each a row of its own; K are the blocks that are finished. -/
structure Hp2 (w : World) (M : Nat) (u : SlV) (up : List Bool) (K : Nat → Prop) (h : SlV) (S : List SlV) (acc : List (List (Int × Int))) : Prop where
  upr : w.ownsRow M 4 1 (.slice u.A u.n u.c) u.n (up.map Value.bool)
  upk : ∀ b, (Value.slice u.A u.n u.c).ownBlock = some b → K b
  row : w.ownsRow M 51 1 (.slice h.A h.n h.c) h.n (S.map SlV.val)
  len : acc.length = h.n
  each : ∀ (j : Nat) (s : SlV) (r : List (Int × Int)), S[j]? = some s → acc[j]? = some r → w.ownsRow M 57 2 (.slice s.A s.n s.c) s.n (r.flatMap edgeCells) ∧ r.length = s.n ∧ s.n ≤ 255 ∧ ∀ b, (Value.slice s.A s.n s.c).ownBlock = some b → K b
  kk : ∀ b, K b → M ≤ b ∧ (Value.slice h.A h.n h.c).ownBlock ≠ some b
  klt : ∀ b, K b → b < w.heap.size
section
variable {w w' : World} {M : Nat} {u h : SlV} {up : List Bool} {K : Nat → Prop} {S : List SlV} {acc : List (List (Int × Int))}
theorem Hp2.slen (p : Hp2 w M u up K h S acc) : S.length = h.n := by have := p.row.1; simpa using this
theorem Hp2.start (hu : w.ownsRow M 4 1 (.slice u.A u.n u.c) u.n (up.map Value.bool)) : Hp2 w M u up (fun b => (Value.slice u.A u.n u.c).ownBlock = some b) ⟨none, 0, 0⟩ [] [] :=
  ⟨hu, fun b h => h, World.ownsRow_nil _ _ _ _, rfl, fun j s r hs _ => by simp at hs, fun b hb => ⟨(World.ownsRow.lt hu b hb).1, fun e => by simp [Value.ownBlock] at e⟩, fun b hb => (World.ownsRow.lt hu b hb).2⟩
theorem Hp2.turned {G : Nat → Prop} (p : Hp2 w M u up K h S acc) (k : Turned G w w') (hG : ∀ b, G b → ¬ K b ∧ (Value.slice h.A h.n h.c).ownBlock ≠ some b) : Hp2 w' M u up K h S acc :=
  ⟨k.owns p.upr (fun b hb e => (hG b e).1 (p.upk b hb)), p.upk, k.owns p.row (fun b hb e => (hG b e).2 hb), p.len,
    fun j s r hs hr => ⟨k.owns (p.each j s r hs hr).1 (fun b hb e => (hG b e).1 ((p.each j s r hs hr).2.2.2 b hb)), (p.each j s r hs hr).2⟩, p.kk, fun b hb => Nat.lt_of_lt_of_le (p.klt b hb) k.size⟩
theorem Hp2.keep (p : Hp2 w M u up K h S acc) (k : Keep w w') : Hp2 w' M u up K h S acc := p.turned (G := fun _ => False) (Turned.of_keep k) (fun _ e => e.elim)
/-- What lies below M is none of them. -/
theorem Hp2.below {G : Nat → Prop} (p : Hp2 w M u up K h S acc) (k : Turned G w w') (hG : ∀ b, G b → b < M) : Hp2 w' M u up K h S acc :=
  p.turned k (fun b e => ⟨fun hk => by have := (p.kk b hk).1; have := hG b e; omega, fun hh => by have := (World.ownsRow.lt p.row b hh).1; have := hG b e; omega⟩)
/-- A list of edges more. -/
theorem Hp2.push {w2 : World} {s : SlV} {r : List (Int × Int)} {A2 : Option Addr} {c2 : Nat} (p : Hp2 w M u up K h S acc) (hr : w.ownsRow M 57 2 (.slice s.A s.n s.c) s.n (r.flatMap edgeCells)) (hl : r.length = s.n) (h255 : s.n ≤ 255)
    (hd : ∀ b, (Value.slice s.A s.n s.c).ownBlock = some b → ¬ K b ∧ (Value.slice h.A h.n h.c).ownBlock ≠ some b) (g2 : w.grownBy w2 (Value.slice h.A h.n h.c).ownBlock)
    (row2 : w2.ownsRow M 51 1 (.slice A2 (h.n + 1) c2) (h.n + 1) (S.map SlV.val ++ [.slice s.A s.n s.c])) (own2 : (Value.slice A2 (h.n + 1) c2).ownBlock = (Value.slice h.A h.n h.c).ownBlock ∨ (Value.slice A2 (h.n + 1) c2).ownBlock = some w.heap.size) :
    Hp2 w2 M u up (fun b => K b ∨ (Value.slice s.A s.n s.c).ownBlock = some b) ⟨A2, h.n + 1, c2⟩ (S ++ [s]) (acc ++ [r]) := by
  have T : Turned (fun b => (Value.slice h.A h.n h.c).ownBlock = some b) w w2 := Turned.of_grown g2 (fun i e => e)
  refine ⟨T.owns p.upr (fun b hb e => (p.kk b (p.upk b hb)).2 e), fun b hb => Or.inl (p.upk b hb), ?_, by rw [List.length_append, p.len]; rfl, ?_, ?_, ?_⟩
  · rw [List.map_append]
    exact row2
  · intro j s' r' hs hr'
    rcases Nat.lt_or_ge j S.length with hj | hj
    · rw [List.getElem?_append_left hj] at hs
      rw [List.getElem?_append_left (by rw [p.len, ← p.slen]; exact hj)] at hr'
      obtain ⟨q1, q2, q3, q4⟩ := p.each j s' r' hs hr'
      exact ⟨T.owns q1 (fun b hb e => (p.kk b (q4 b hb)).2 e), q2, q3, fun b hb => Or.inl (q4 b hb)⟩
    · rw [List.getElem?_append_right hj] at hs
      have hja : acc.length ≤ j := by rw [p.len, ← p.slen]; exact hj
      rw [List.getElem?_append_right hja] at hr'
      have e1 : j - S.length = 0 := by
        rcases Nat.lt_or_ge (j - S.length) 1 with h1 | h1
        · omega
        · rw [List.getElem?_eq_none (by simpa using h1)] at hs; cases hs
      have e2 : j - acc.length = 0 := by rw [p.len, ← p.slen]; exact e1
      rw [e1] at hs
      rw [e2] at hr'
      simp at hs hr'
      subst hs; subst hr'
      exact ⟨T.owns hr (fun b hb e => (hd b hb).2 e), hl, h255, fun b hb => Or.inr hb⟩
  · intro b hb
    have hlt : M ≤ b ∧ (Value.slice h.A h.n h.c).ownBlock ≠ some b := by
      rcases hb with e | e
      · exact p.kk b e
      · exact ⟨(World.ownsRow.lt hr b e).1, (hd b e).2⟩
    refine ⟨hlt.1, fun e => ?_⟩
    rcases own2 with e2 | e2
    · exact hlt.2 (e2 ▸ e)
    · have hbl : b < w.heap.size := by
        rcases hb with e3 | e3
        · exact p.klt b e3
        · exact (World.ownsRow.lt hr b e3).2
      rw [e2] at e
      injection e with e
      omega
  · intro b hb
    rcases hb with e | e
    · exact Nat.lt_of_lt_of_le (p.klt b e) g2.size
    · exact Nat.lt_of_lt_of_le (World.ownsRow.lt hr b e).2 g2.size
theorem Hp2.ends {G : Nat → Prop} (p : Hp2 w M u up K h S acc) (k : Turned G w w') (hG : ∀ b, G b → b < M) : UpsAt w' w'.heap.size u.A u.n up ∧ HopsAt w' w'.heap.size h.A h.n acc := by
  have ne : ∀ {e size n c : Nat} {A : Option Addr} {l : List Value}, w.ownsRow M e size (.slice A n c) n l → ∀ b, (Value.slice A n c).ownBlock = some b → ¬ G b := fun hx b hb e => by
    have := (World.ownsRow.lt hx b hb).1; have := hG b e; omega
  refine ⟨ups_owned (k.owns p.upr (ne p.upr)), S, p.slen, p.len, fun i s r hs hr => ?_, fun hn => ?_⟩
  · obtain ⟨q1, q2, q3, _⟩ := p.each i s r hs hr
    exact ⟨edges_owned (k.owns q1 (ne q1)) q2, by omega, owns_le q1⟩
  · obtain ⟨g, hA, h1, h2, h3⟩ := owns_at (k.owns p.row (ne p.row)) hn
    refine ⟨g, 0, hA, h2, fun i s hs => ?_⟩
    have hi : i < S.length := by
      rcases Nat.lt_or_ge i S.length with h1 | h1
      · exact h1
      · rw [List.getElem?_eq_none h1] at hs; cases hs
    rw [Nat.zero_add, h3 i (by rw [← p.slen]; omega), List.getElem?_map, hs]
    rfl
end
end Go.Proofs.YtgkihfemlbhioaaDoor
/- The document's own frames, read: a kind. -/
namespace Go.Proofs.YtgkihfemlbhioaaDoor
open Go.RowKit Fr Crc
set_option linter.unusedVariables false
set_option linter.unusedSimpArgs false
set_option maxRecDepth 100000 in
set_option maxHeartbeats 16000000 in
theorem rtk_1 (xs L : List Nat) (W w : World) (g2 g gf : Nat) (st : Option (List Nat)) (s d ep lf : Nat) (hs : s < 256) (hd : d < 256) (hep : ep < 18446744073709551616) (hlf : lf < 18446744073709551616) (hS : Tk W g2 g gf w st noM ⟨1, (s : Int), (d : Int), ep, lf, 0, 0, 0, 0, [], [], [], 0, [], []⟩)
    (hq : parseF L = goO st (restP 1 s d ep lf)) (hE : EndTold xs L W) (s0 s1 s3 s4 s5 s8 s9 s10 s11 s12 s13 s14 s15 s16 s17 s18 s19 s20 s21 s22 s23 s24 s25 s26 s27 s28 s29 s30 s31 s32 s33 s34 s35 s36 s37 s38 s39 s40 s41 s42 s43 s44 s45 s46 s47 s48 s49 s50 s51 s52 s53 s54 s55 s56 s57 s58 s59 s60 s61 s62 s63 s64 s65 s66 s67 s68 s69 s70 s71 s72 s73 s74 s75 s76 s77 s78 s79 s80 s81 s82 s83 s84 s85 s86 s87 s88 s89 s90 s91 s92 s93 s94 s95 s96 s97 s98 s99 s100 s101 s102 s103 s104 s105 s106 s107 s108 s109 s110 s111 s112 s113 s114 s115 s116 s117 s118 s119 s120 s121 s122 s123 s124 s125 s126 s127 s128 s129 s130 s131 s132 s133 s134 s135 s136 s137 s138 s139 s140 s141 s142 s143 s144 s145 s146 s147 s148 s149 s150 s151 s152 s153 s154 s155 s156 s157 s158 s159 s160 s161 s162 s163 s164 s165 s166 s167 s168 s169 s170 s171 s172 s173 s174 s175 s176 s177 s178 s179 s180 s181 s182 s183 s184 s185 s186 s187 s188 s189 s190 s191 s192 s193 s194 s195 s196 s197 s198 s199 s200 s201 s202 s203 s204 s205 s206 s207 s208 s209 s210 s211 s212 s213 s214 s215 s216 s217 s218 s219 s220 s221 s222 s223 s224 s225 s226 s227 s228 s229 s230 s231 s232 s233 s234 s235 s236 s237 s238 s239 s240 s241 s242 s243 s244 s245 s246 : Value) :
    Code.wp Tryd.prog kindCode (bodyPost Tryd.prog Tryd.f12 (TakeTold xs W)) { tmps := #[s0, s1, .pointer (some ⟨g2, 0, none⟩), s3, s4, s5, .pointer (some ⟨g, 0, none⟩), .pointer (some ⟨gf, 0, none⟩), s8, s9, s10, s11, s12, s13, s14, s15, s16, s17, s18, s19, s20, s21, s22, s23, s24, s25, s26, s27, s28, s29, s30, s31, s32, s33, s34, s35, s36, s37, s38, s39, s40, s41, s42, s43, s44, s45, s46, s47, s48, s49, s50, s51, s52, s53, s54, s55, s56, s57, s58, s59, s60, s61, s62, s63, s64, s65, s66, s67, s68, s69, s70, s71, s72, s73, s74, s75, s76, s77, s78, s79, s80, s81, s82, s83, s84, s85, s86, s87, s88, s89, s90, s91, s92, s93, s94, s95, s96, s97, s98, s99, s100, s101, s102, s103, s104, s105, s106, s107, s108, s109, s110, s111, s112, s113, s114, s115, s116, s117, s118, s119, s120, s121, s122, s123, s124, s125, s126, s127, s128, s129, s130, s131, s132, s133, s134, s135, s136, s137, s138, s139, s140, s141, s142, s143, s144, s145, s146, s147, s148, s149, s150, s151, s152, s153, s154, s155, s156, s157, s158, s159, s160, s161, s162, s163, s164, s165, s166, s167, s168, s169, s170, s171, s172, s173, s174, s175, s176, s177, s178, s179, s180, s181, s182, s183, s184, s185, s186, s187, s188, s189, s190, s191, s192, s193, s194, s195, s196, s197, s198, s199, s200, s201, s202, s203, s204, s205, s206, s207, s208, s209, s210, s211, s212, s213, s214, s215, s216, s217, s218, s219, s220, s221, s222, s223, s224, s225, s226, s227, s228, s229, s230, s231, s232, s233, s234, s235, s236, s237, s238, s239, s240, s241, s242, s243, s244, s245, s246], defers := [] } w := by
  have HS := Lib.hid hS
  have HQ := Lib.hid hq
  have HE := Lib.hid hE
  clear hS hq hE
  conv => arg 2; whnf
  have y0 : w.cell? ⟨gf, 0, none⟩ = some (.int .i64 1) := HS.out.box.cell 0 _ rfl
  have HC1 := Lib.hid (rnum1 HS.out)
  go_wp2_with fail
  refine HC1.out.mono ?_
  rintro e w_1 ⟨fl, st1, rfl, bfl, r1, t1, q1⟩
  have S1 := Lib.hid r1
  have Q1 := Lib.hid q1
  have T1 := Lib.hid t1
  have wrfl : IntKind.i64.wrap (fl : Int) = (fl : Int) := IntWalk.i64_in _ (by omega)
  clear HC1 r1 q1 t1 HS
  clear y0
  have bx := S1.out.box
  have y5 := bx.cell 5 _ rfl
  have z5 := bx.free 5
  skip
  clear bx
  have S2 := S1.out.set 5 (.int .i64 (fl : Int)) (m' := noM) (f' := ⟨1, (s : Int), (d : Int), ep, lf, (fl : Int), 0, 0, 0, [], [], [], 0, [], []⟩) rfl
  obtain ⟨w_2, hw2⟩ : ∃ x, w_1.setCell ⟨gf, 5, none⟩ (.int .i64 (fl : Int)) = x := ⟨_, rfl⟩
  rw [hw2] at S2
  have S2 := Lib.hid S2
  have t2 : Turned (fun b => b = gf) w_1 w_2 := by rw [← hw2]; exact Turned.set _ _ _ rfl
  clear t2 S1
  have HC3 := Lib.hid (rnum8 S2.out)
  go_wp2_with fail
  clear y5 z5
  refine HC3.out.mono ?_
  rintro e w_3 ⟨gn, st3, rfl, bgn, r3, t3, q3⟩
  have S3 := Lib.hid r3
  have Q3 := Lib.hid q3
  have T3 := Lib.hid t3
  clear HC3 r3 q3 t3 S2
  have bx := S3.out.box
  have y6 := bx.cell 6 _ rfl
  have z6 := bx.free 6
  skip
  clear bx
  have S4 := S3.out.set 6 (.int .u64 (gn : Int)) (m' := noM) (f' := ⟨1, (s : Int), (d : Int), ep, lf, (fl : Int), gn, 0, 0, [], [], [], 0, [], []⟩) rfl
  obtain ⟨w_4, hw4⟩ : ∃ x, w_3.setCell ⟨gf, 6, none⟩ (.int .u64 (gn : Int)) = x := ⟨_, rfl⟩
  rw [hw4] at S4
  have S4 := Lib.hid S4
  have t4 : Turned (fun b => b = gf) w_3 w_4 := by rw [← hw4]; exact Turned.set _ _ _ rfl
  clear t4 S3
  have y0 : w_4.cell? ⟨gf, 0, none⟩ = some (.int .i64 1) := S4.out.box.cell 0 _ rfl
  have HC5 := Lib.hid (rnum8 S4.out)
  go_wp2_with fail
  clear y6 z6
  refine HC5.out.mono ?_
  rintro e w_5 ⟨sq, st5, rfl, bsq, r5, t5, q5⟩
  have S5 := Lib.hid r5
  have Q5 := Lib.hid q5
  have T5 := Lib.hid t5
  clear HC5 r5 q5 t5 S4
  clear y0
  have bx := S5.out.box
  have y7 := bx.cell 7 _ rfl
  have z7 := bx.free 7
  skip
  clear bx
  have S6 := S5.out.set 7 (.int .u64 (sq : Int)) (m' := noM) (f' := ⟨1, (s : Int), (d : Int), ep, lf, (fl : Int), gn, sq, 0, [], [], [], 0, [], []⟩) rfl
  obtain ⟨w_6, hw6⟩ : ∃ x, w_5.setCell ⟨gf, 7, none⟩ (.int .u64 (sq : Int)) = x := ⟨_, rfl⟩
  rw [hw6] at S6
  have S6 := Lib.hid S6
  have t6 : Turned (fun b => b = gf) w_5 w_6 := by rw [← hw6]; exact Turned.set _ _ _ rfl
  clear t6 S5
  have y0 : w_6.cell? ⟨gf, 0, none⟩ = some (.int .i64 1) := S6.out.box.cell 0 _ rfl
  have HC7 := Lib.hid (rnum1 S6.out)
  go_wp2_with fail
  clear y7 z7
  refine HC7.out.mono ?_
  rintro e w_7 ⟨nc, st7, rfl, bnc, r7, t7, q7⟩
  have S7 := Lib.hid r7
  have Q7 := Lib.hid q7
  have T7 := Lib.hid t7
  have wrnc : IntKind.i64.wrap (nc : Int) = (nc : Int) := IntWalk.i64_in _ (by omega)
  clear HC7 r7 q7 t7 S6
  clear y0
  have HC8 := Lib.hid (rtakeT S7.out nc)
  have HWS8 : Hid (gf < w_7.heap.size) := S7.out.box.lt
  go_wp2_with fail
  refine HC8.out.mono ?_
  rintro e w_8 ⟨Aco, kco, cco, co, st8, rfl, bco, oco, r8, t8, q8⟩
  have OWco := Lib.hid oco
  have S8 := Lib.hid r8
  have Q8 := Lib.hid q8
  have T8 := Lib.hid t8
  clear HC8 r8 q8 t8 oco S7
  have TKA := Lib.hid (Turned.refl (fun b => b = g ∨ b = gf) w_8)
  have bx := S8.out.box
  have y9 := bx.cell 9 _ rfl
  have z9 := bx.free 9
  dsimp only [noM] at y9
  clear bx
  have S9 := S8.out.set 9 (.slice Aco kco cco) (m' := (⟨⟨Aco, kco, cco⟩, ⟨none, 0, 0⟩, ⟨none, 0, 0⟩, ⟨none, 0, 0⟩, ⟨none, 0, 0⟩⟩ : FrM)) (f' := ⟨1, (s : Int), (d : Int), ep, lf, (fl : Int), gn, sq, 0, co, [], [], 0, [], []⟩) rfl
  obtain ⟨w_9, hw9⟩ : ∃ x, w_8.setCell ⟨gf, 9, none⟩ (.slice Aco kco cco) = x := ⟨_, rfl⟩
  rw [hw9] at S9
  have S9 := Lib.hid S9
  have t9 : Turned (fun b => b = gf) w_8 w_9 := by rw [← hw9]; exact Turned.set _ _ _ rfl
  have TK10 := Lib.hid (TKA.out.trans t9 (fun b e => Or.inl (Or.inr e)))
  clear TKA
  clear t9 S8
  have HC11 := Lib.hid (rnum2 S9.out)
  go_wp2_with fail
  clear y9 z9
  refine HC11.out.mono ?_
  rintro e w_11 ⟨np, st11, rfl, bnp, r11, t11, q11⟩
  have S11 := Lib.hid r11
  have Q11 := Lib.hid q11
  have T11 := Lib.hid t11
  have TK12 := Lib.hid (TK10.out.trans t11 (fun b e => Or.inl (Or.inl e)))
  clear TK10
  have wrnp : IntKind.i64.wrap (np : Int) = (np : Int) := IntWalk.i64_in _ (by omega)
  clear HC11 r11 q11 t11 S9
  have HC13 := Lib.hid (rtakeT S11.out np)
  have HWS13 : Hid (gf < w_11.heap.size) := S11.out.box.lt
  go_wp2_with fail
  refine HC13.out.mono ?_
  rintro e w_13 ⟨Apay, kpay, cpay, pay, st13, rfl, bpay, opay, r13, t13, q13⟩
  have OWpay := Lib.hid opay
  have S13 := Lib.hid r13
  have Q13 := Lib.hid q13
  have T13 := Lib.hid t13
  have TK14 := Lib.hid (TK12.out.trans t13 (fun b e => Or.inl (Or.inl e)))
  clear TK12
  clear HC13 r13 q13 t13 opay S11
  have TKB := Lib.hid (Turned.refl (fun b => b = g ∨ b = gf) w_13)
  have bx := S13.out.box
  have y10 := bx.cell 10 _ rfl
  have z10 := bx.free 10
  skip
  clear bx
  have S15 := S13.out.set 10 (.slice Apay kpay cpay) (m' := (⟨⟨Aco, kco, cco⟩, ⟨Apay, kpay, cpay⟩, ⟨none, 0, 0⟩, ⟨none, 0, 0⟩, ⟨none, 0, 0⟩⟩ : FrM)) (f' := ⟨1, (s : Int), (d : Int), ep, lf, (fl : Int), gn, sq, 0, co, pay, [], 0, [], []⟩) rfl
  obtain ⟨w_15, hw15⟩ : ∃ x, w_13.setCell ⟨gf, 10, none⟩ (.slice Apay kpay cpay) = x := ⟨_, rfl⟩
  rw [hw15] at S15
  have S15 := Lib.hid S15
  have t15 : Turned (fun b => b = gf) w_13 w_15 := by rw [← hw15]; exact Turned.set _ _ _ rfl
  have TK16 := Lib.hid (TKB.out.trans t15 (fun b e => Or.inl (Or.inr e)))
  clear TKB
  clear t15 S13
  have y0 : w_15.cell? ⟨gf, 0, none⟩ = some (.int .i64 1) := S15.out.box.cell 0 _ rfl
  go_upto_region 50 with fail
  clear y0
  clear y10 z10
  have HP : parseF L = goO st13 (Pa.ret ⟨1, (s : Int), (d : Int), ep, lf, (fl : Int), gn, sq, 0, co, pay, [], 0, [], []⟩) ∨ (parseF L = none ∧ ¬ MayF ⟨1, (s : Int), (d : Int), ep, lf, (fl : Int), gn, sq, 0, co, pay, [], 0, [], []⟩) := by
    left
    rw [HQ.out, rest_1]
    unfold dataP
    rw [Q1.out, Q3.out, Q5.out, Q7.out, Q8.out, Q11.out, Q13.out]
  have HCON : ∀ (G : Nat → Prop) (w' : World), Turned G w_15 w' → (∀ b, G b → b ≤ gf) → FrIn w' w'.heap.size (⟨⟨Aco, kco, cco⟩, ⟨Apay, kpay, cpay⟩, ⟨none, 0, 0⟩, ⟨none, 0, 0⟩, ⟨none, 0, 0⟩⟩ : FrM) ⟨1, (s : Int), (d : Int), ep, lf, (fl : Int), gn, sq, 0, co, pay, [], 0, [], []⟩ := by
    intro G w' kG hG
    have o3 := S15.out.o3
    have b1 := own_stay OWco.out (TK14.out.trans TK16.out (fun b e => Or.inl e)) o3 kG hG HWS8.out
    have b2 := own_stay OWpay.out TK16.out o3 kG hG HWS13.out
    exact ⟨b1.bytes, b2.bytes, RanksAt.none_ _ _ _, UpsAt.none_ _ _ _, HopsAt.none_ _ _ _, ⟨⟨show kco ≤ 140737488351232 by omega, own_le' b1⟩, ⟨show kpay ≤ 140737488351232 by omega, own_le' b2⟩, by simp [SlV.ok], by simp [SlV.ok], by simp [SlV.ok]⟩, ⟨by unfold I64; dsimp only; omega, by unfold I64; dsimp only; omega, by unfold I64; dsimp only; omega, by unfold I64; dsimp only; omega⟩, ⟨by unfold U64; dsimp only; omega, by unfold U64; dsimp only; omega, by unfold U64; dsimp only; omega, by unfold U64; dsimp only; omega, by unfold U64; dsimp only; omega, by unfold U64; dsimp only; omega⟩, fun r hr => by simp at hr, fun l hl => by simp at hl⟩
  exact rtk_end xs L W w_15 g2 g gf st13 (⟨⟨Aco, kco, cco⟩, ⟨Apay, kpay, cpay⟩, ⟨none, 0, 0⟩, ⟨none, 0, 0⟩, ⟨none, 0, 0⟩⟩ : FrM) ⟨1, (s : Int), (d : Int), ep, lf, (fl : Int), gn, sq, 0, co, pay, [], 0, [], []⟩ S15.out HCON HP HE.out _ _ _ _ _ _ _ _ _ _ _ _ _ _ _ _ _ _ _ _ _ _ _ _ _ _ _ _ _ _ _ _ _ _ _ _ _ _ _ _ _ _ _ _ _ _ _ _ _ _ _ _ _ _ _ _ _ _ _ _ _ _ _ _ _ _ _ _ _ _ _ _ _ _ _ _ _ _ _ _ _ _ _ _ _ _ _ _ _ _ _ _ _ _ _ _ _ _ _ _ _ _ _ _ _ _ _ _ _ _ _ _ _ _ _ _ _ _ _ _ _ _ _ _ _ _ _ _ _ _ _ _ _ _ _ _ _ _ _ _ _ _ _ _ _ _ _ _ _ _ _ _ _ _ _ _ _ _ _ _ _ _ _ _ _ _ _ _ _ _ _ _ _ _ _ _ _ _ _ _ _ _ _ _ _ _ _ _ _ _ _ _ _ _ _ _ _ _ _ _ _ _ _ _ _ _ _ _ _ _ _ _ _ _ _ _ _ _ _ _ _ _ _ _ _ _ _ _ _ _ _ _ _ _ _ _ _ _ _ _ _ _ _ _ _ _ (by assumption) (by assumption)
end Go.Proofs.YtgkihfemlbhioaaDoor
/- The document's own frames, read: a kind. -/
namespace Go.Proofs.YtgkihfemlbhioaaDoor
open Go.RowKit Fr Crc
set_option linter.unusedVariables false
set_option linter.unusedSimpArgs false
set_option maxRecDepth 100000 in
set_option maxHeartbeats 16000000 in
theorem rtk_2 (xs L : List Nat) (W w : World) (g2 g gf : Nat) (st : Option (List Nat)) (s d ep lf : Nat) (hs : s < 256) (hd : d < 256) (hep : ep < 18446744073709551616) (hlf : lf < 18446744073709551616) (hS : Tk W g2 g gf w st noM ⟨2, (s : Int), (d : Int), ep, lf, 0, 0, 0, 0, [], [], [], 0, [], []⟩)
    (hq : parseF L = goO st (restP 2 s d ep lf)) (hE : EndTold xs L W) (s0 s1 s3 s4 s5 s8 s9 s10 s11 s12 s13 s14 s15 s16 s17 s18 s19 s20 s21 s22 s23 s24 s25 s26 s27 s28 s29 s30 s31 s32 s33 s34 s35 s36 s37 s38 s39 s40 s41 s42 s43 s44 s45 s46 s47 s48 s49 s50 s51 s52 s53 s54 s55 s56 s57 s58 s59 s60 s61 s62 s63 s64 s65 s66 s67 s68 s69 s70 s71 s72 s73 s74 s75 s76 s77 s78 s79 s80 s81 s82 s83 s84 s85 s86 s87 s88 s89 s90 s91 s92 s93 s94 s95 s96 s97 s98 s99 s100 s101 s102 s103 s104 s105 s106 s107 s108 s109 s110 s111 s112 s113 s114 s115 s116 s117 s118 s119 s120 s121 s122 s123 s124 s125 s126 s127 s128 s129 s130 s131 s132 s133 s134 s135 s136 s137 s138 s139 s140 s141 s142 s143 s144 s145 s146 s147 s148 s149 s150 s151 s152 s153 s154 s155 s156 s157 s158 s159 s160 s161 s162 s163 s164 s165 s166 s167 s168 s169 s170 s171 s172 s173 s174 s175 s176 s177 s178 s179 s180 s181 s182 s183 s184 s185 s186 s187 s188 s189 s190 s191 s192 s193 s194 s195 s196 s197 s198 s199 s200 s201 s202 s203 s204 s205 s206 s207 s208 s209 s210 s211 s212 s213 s214 s215 s216 s217 s218 s219 s220 s221 s222 s223 s224 s225 s226 s227 s228 s229 s230 s231 s232 s233 s234 s235 s236 s237 s238 s239 s240 s241 s242 s243 s244 s245 s246 : Value) :
    Code.wp Tryd.prog kindCode (bodyPost Tryd.prog Tryd.f12 (TakeTold xs W)) { tmps := #[s0, s1, .pointer (some ⟨g2, 0, none⟩), s3, s4, s5, .pointer (some ⟨g, 0, none⟩), .pointer (some ⟨gf, 0, none⟩), s8, s9, s10, s11, s12, s13, s14, s15, s16, s17, s18, s19, s20, s21, s22, s23, s24, s25, s26, s27, s28, s29, s30, s31, s32, s33, s34, s35, s36, s37, s38, s39, s40, s41, s42, s43, s44, s45, s46, s47, s48, s49, s50, s51, s52, s53, s54, s55, s56, s57, s58, s59, s60, s61, s62, s63, s64, s65, s66, s67, s68, s69, s70, s71, s72, s73, s74, s75, s76, s77, s78, s79, s80, s81, s82, s83, s84, s85, s86, s87, s88, s89, s90, s91, s92, s93, s94, s95, s96, s97, s98, s99, s100, s101, s102, s103, s104, s105, s106, s107, s108, s109, s110, s111, s112, s113, s114, s115, s116, s117, s118, s119, s120, s121, s122, s123, s124, s125, s126, s127, s128, s129, s130, s131, s132, s133, s134, s135, s136, s137, s138, s139, s140, s141, s142, s143, s144, s145, s146, s147, s148, s149, s150, s151, s152, s153, s154, s155, s156, s157, s158, s159, s160, s161, s162, s163, s164, s165, s166, s167, s168, s169, s170, s171, s172, s173, s174, s175, s176, s177, s178, s179, s180, s181, s182, s183, s184, s185, s186, s187, s188, s189, s190, s191, s192, s193, s194, s195, s196, s197, s198, s199, s200, s201, s202, s203, s204, s205, s206, s207, s208, s209, s210, s211, s212, s213, s214, s215, s216, s217, s218, s219, s220, s221, s222, s223, s224, s225, s226, s227, s228, s229, s230, s231, s232, s233, s234, s235, s236, s237, s238, s239, s240, s241, s242, s243, s244, s245, s246], defers := [] } w := by
  have HS := Lib.hid hS
  have HQ := Lib.hid hq
  have HE := Lib.hid hE
  clear hS hq hE
  conv => arg 2; whnf
  have y0 : w.cell? ⟨gf, 0, none⟩ = some (.int .i64 2) := HS.out.box.cell 0 _ rfl
  have HC1 := Lib.hid (rnum1 HS.out)
  go_wp2_with fail
  refine HC1.out.mono ?_
  rintro e w_1 ⟨fl, st1, rfl, bfl, r1, t1, q1⟩
  have S1 := Lib.hid r1
  have Q1 := Lib.hid q1
  have T1 := Lib.hid t1
  have wrfl : IntKind.i64.wrap (fl : Int) = (fl : Int) := IntWalk.i64_in _ (by omega)
  clear HC1 r1 q1 t1 HS
  clear y0
  have bx := S1.out.box
  have y5 := bx.cell 5 _ rfl
  have z5 := bx.free 5
  skip
  clear bx
  have S2 := S1.out.set 5 (.int .i64 (fl : Int)) (m' := noM) (f' := ⟨2, (s : Int), (d : Int), ep, lf, (fl : Int), 0, 0, 0, [], [], [], 0, [], []⟩) rfl
  obtain ⟨w_2, hw2⟩ : ∃ x, w_1.setCell ⟨gf, 5, none⟩ (.int .i64 (fl : Int)) = x := ⟨_, rfl⟩
  rw [hw2] at S2
  have S2 := Lib.hid S2
  have t2 : Turned (fun b => b = gf) w_1 w_2 := by rw [← hw2]; exact Turned.set _ _ _ rfl
  clear t2 S1
  have HC3 := Lib.hid (rnum8 S2.out)
  go_wp2_with fail
  clear y5 z5
  refine HC3.out.mono ?_
  rintro e w_3 ⟨gn, st3, rfl, bgn, r3, t3, q3⟩
  have S3 := Lib.hid r3
  have Q3 := Lib.hid q3
  have T3 := Lib.hid t3
  clear HC3 r3 q3 t3 S2
  have bx := S3.out.box
  have y6 := bx.cell 6 _ rfl
  have z6 := bx.free 6
  skip
  clear bx
  have S4 := S3.out.set 6 (.int .u64 (gn : Int)) (m' := noM) (f' := ⟨2, (s : Int), (d : Int), ep, lf, (fl : Int), gn, 0, 0, [], [], [], 0, [], []⟩) rfl
  obtain ⟨w_4, hw4⟩ : ∃ x, w_3.setCell ⟨gf, 6, none⟩ (.int .u64 (gn : Int)) = x := ⟨_, rfl⟩
  rw [hw4] at S4
  have S4 := Lib.hid S4
  have t4 : Turned (fun b => b = gf) w_3 w_4 := by rw [← hw4]; exact Turned.set _ _ _ rfl
  clear t4 S3
  have y0 : w_4.cell? ⟨gf, 0, none⟩ = some (.int .i64 2) := S4.out.box.cell 0 _ rfl
  have HC5 := Lib.hid (rnum8 S4.out)
  go_wp2_with fail
  clear y6 z6
  refine HC5.out.mono ?_
  rintro e w_5 ⟨sq, st5, rfl, bsq, r5, t5, q5⟩
  have S5 := Lib.hid r5
  have Q5 := Lib.hid q5
  have T5 := Lib.hid t5
  clear HC5 r5 q5 t5 S4
  clear y0
  have bx := S5.out.box
  have y7 := bx.cell 7 _ rfl
  have z7 := bx.free 7
  skip
  clear bx
  have S6 := S5.out.set 7 (.int .u64 (sq : Int)) (m' := noM) (f' := ⟨2, (s : Int), (d : Int), ep, lf, (fl : Int), gn, sq, 0, [], [], [], 0, [], []⟩) rfl
  obtain ⟨w_6, hw6⟩ : ∃ x, w_5.setCell ⟨gf, 7, none⟩ (.int .u64 (sq : Int)) = x := ⟨_, rfl⟩
  rw [hw6] at S6
  have S6 := Lib.hid S6
  have t6 : Turned (fun b => b = gf) w_5 w_6 := by rw [← hw6]; exact Turned.set _ _ _ rfl
  clear t6 S5
  have y0 : w_6.cell? ⟨gf, 0, none⟩ = some (.int .i64 2) := S6.out.box.cell 0 _ rfl
  have HC7 := Lib.hid (rnum1 S6.out)
  go_wp2_with fail
  clear y7 z7
  refine HC7.out.mono ?_
  rintro e w_7 ⟨nk, st7, rfl, bnk, r7, t7, q7⟩
  have S7 := Lib.hid r7
  have Q7 := Lib.hid q7
  have T7 := Lib.hid t7
  have wrnk : IntKind.i64.wrap (nk : Int) = (nk : Int) := IntWalk.i64_in _ (by omega)
  clear HC7 r7 q7 t7 S6
  clear y0
  obtain ⟨M, hM⟩ : ∃ M, w_7.heap.size = M := ⟨_, rfl⟩
  have HWS : Hid (gf < M) := by show _ < _; rw [← hM]; exact S7.out.box.lt
  have HMM := Lib.hid hM
  clear hM
  go_upto_region 24 with fail
  go_loopw [9] (fun iv wr => ∃ (i : Nat) (Ar : Option Addr) (cr : Nat) (rks : List (Nat × Int)) (oi : Option (List Nat)), i ≤ nk ∧ iv = .int .i64 i ∧ Tk W g2 g gf wr oi (⟨⟨none, 0, 0⟩, ⟨none, 0, 0⟩, ⟨Ar, i, cr⟩, ⟨none, 0, 0⟩, ⟨none, 0, 0⟩⟩ : FrM) ⟨2, (s : Int), (d : Int), ep, lf, (fl : Int), gn, sq, 0, [], [], rks, 0, [], []⟩ ∧ ManyS rankP st7 nk i rks oi ∧ wr.ownsRow M 53 2 (.slice Ar i cr) i (rks.flatMap rankCells) ∧ rks.length = i ∧ (∀ r ∈ rks, U64 r.1 ∧ I64 r.2) ∧ M ≤ wr.heap.size) (fun iv _ => nk - (intOf iv).toNat)
  case atStart => exact ⟨0, none, 0, [], _, by omega, rfl, S7.out, ManyS.start _ _ _, World.ownsRow_nil _ _ _ _, rfl, fun r hr => by simp at hr, Nat.le_of_eq HMM.out.symm⟩
  case round =>
    obtain ⟨i, Ar, cr, rks, oi, hi, rfl, ts, ms, ow, hrl, hbd, hMr⟩ := hrel
    have TS := Lib.hid ts
    have MS := Lib.hid ms
    have OW := Lib.hid ow
    have HRL := Lib.hid hrl
    have HBD := Lib.hid hbd
    have e1 : (0 : Int) ≤ (i : Int) := Int.natCast_nonneg _
    clear ts ms ow hrl hbd S7
    by_cases hlt : i < nk
    · cases oi with
      | some M1 =>
        obtain ⟨Ax, cx, h1, _⟩ := (show Rd wr g M1 false from TS.out.rd)
        obtain ⟨c1, c2, _, _⟩ := two_cells h1
        clear h1 c1
        have e2 : (i : Int) < (nk : Int) := by omega
        have d2 : decide ((i : Int) < (nk : Int)) = true := decide_eq_true e2
        have HC8 := Lib.hid (rnum8 TS.out)
        go_wp2_with fail
        refine HC8.out.mono ?_
        rintro e w_8 ⟨rg, st8, rfl, brg, r8, t8, q8⟩
        have S8 := Lib.hid r8
        have Q8 := Lib.hid q8
        have T8 := Lib.hid t8
        clear HC8 r8 q8 t8 TS
        clear c2
        go_wp2_with fail
        have SD := Lib.hid (S8.out.keep (Keep.refl w_8).drew)
        refine wp_region_till [10] (fun wz : World => wz.cell? ⟨gf, 11, none⟩ = some (.slice Ar i cr)) (by kernel_rfl) ?_
        clear S8
        have hHeld : (fun wz : World => wz.cell? ⟨gf, 11, none⟩ = some (.slice Ar i cr)) w_8.drew := SD.out.box.cell 11 _ rfl
        refine wpTill_free (i := 0) (v := ?_) rfl (by kernel_rfl) (by kernel_rfl) (by kernel_rfl) (by kernel_rfl) (fun _ _ _ h => h) (Or.inl ⟨by rfl, ?_⟩) hHeld ?_
        rotate_left
        · intro wq hSw
          go_simp
          all_goals with_reducible rfl
        try simp only [Act.put, List.getElem_toArray, List.getElem_cons_succ, List.getElem_cons_zero, List.setIfInBounds_toArray, List.set_cons_zero, List.set_cons_succ]
        refine wpTill_take (i := 1) (v := ?_) rfl (by kernel_rfl) (by kernel_rfl) (by kernel_rfl) (by kernel_rfl) (fun _ _ _ h => h) (Or.inl ⟨by rfl, ?_⟩) hHeld ?_
        rotate_left
        · intro wq hSw
          have q0 := hSw
          go_simp
          all_goals with_reducible rfl
        try simp only [Act.put, List.getElem_toArray, List.getElem_cons_succ, List.getElem_cons_zero, List.setIfInBounds_toArray, List.set_cons_zero, List.set_cons_succ]
        refine wpTill_free (i := 2) (v := ?_) rfl (by kernel_rfl) (by kernel_rfl) (by kernel_rfl) (by kernel_rfl) (fun _ _ _ h => h) (Or.inl ⟨by rfl, ?_⟩) hHeld ?_
        rotate_left
        · intro wq hSw
          go_simp
          all_goals with_reducible rfl
        try simp only [Act.put, List.getElem_toArray, List.getElem_cons_succ, List.getElem_cons_zero, List.setIfInBounds_toArray, List.set_cons_zero, List.set_cons_succ]
        refine wpTill_free (i := 3) (v := ?_) rfl (by kernel_rfl) (by kernel_rfl) (by kernel_rfl) (by kernel_rfl) (fun _ _ _ h => h) (Or.inl ⟨by rfl, ?_⟩) hHeld ?_
        rotate_left
        · intro wq hSw
          go_simp
          all_goals with_reducible rfl
        try simp only [Act.put, List.getElem_toArray, List.getElem_cons_succ, List.getElem_cons_zero, List.setIfInBounds_toArray, List.set_cons_zero, List.set_cons_succ]
        have HC9 := Lib.hid (rnum1 SD.out)
        refine wpTill_one (i := 4) (by kernel_rfl) rfl (fun K hK => ?_)
        go_simp
        refine HC9.out.mono ?_
        rintro e w_9 ⟨rr, st9, rfl, brr, r9, t9, q9⟩
        have S9 := Lib.hid r9
        have Q9 := Lib.hid q9
        have T9 := Lib.hid t9
        have wrrr : IntKind.i64.wrap (rr : Int) = (rr : Int) := IntWalk.i64_in _ (by omega)
        clear HC9 r9 q9 t9 SD
        have hHeld2 : (fun wz : World => wz.cell? ⟨gf, 11, none⟩ = some (.slice Ar i cr)) w_9 := S9.out.box.cell 11 _ rfl
        refine hK.out _ _ hHeld2 ?_
        clear hK K hHeld
        have hHeld := hHeld2
        clear hHeld2
        try simp only [Act.put, List.getElem_toArray, List.getElem_cons_succ, List.getElem_cons_zero, List.setIfInBounds_toArray, List.set_cons_zero, List.set_cons_succ]
        refine wpTill_free (i := 5) (v := ?_) rfl (by kernel_rfl) (by kernel_rfl) (by kernel_rfl) (by kernel_rfl) (fun _ _ _ h => h) (Or.inl ⟨by rfl, ?_⟩) hHeld ?_
        rotate_left
        · intro wq hSw
          go_simp
          all_goals with_reducible rfl
        try simp only [Act.put, List.getElem_toArray, List.getElem_cons_succ, List.getElem_cons_zero, List.setIfInBounds_toArray, List.set_cons_zero, List.set_cons_succ]
        refine wpTill_free (i := 6) (v := ?_) rfl (by kernel_rfl) (by kernel_rfl) (by kernel_rfl) (by kernel_rfl) (fun _ _ _ h => h) (Or.inl ⟨by rfl, ?_⟩) hHeld ?_
        rotate_left
        · intro wq hSw
          go_simp
          all_goals with_reducible rfl
        try simp only [Act.put, List.getElem_toArray, List.getElem_cons_succ, List.getElem_cons_zero, List.setIfInBounds_toArray, List.set_cons_zero, List.set_cons_succ]
        refine wpTill_one (i := 7) (by kernel_rfl) rfl (fun K hK => ?_)
        go_simp
        obtain ⟨wl, hwl⟩ : ∃ wl, w_9.alloc (.cells #[.int .u64 (rg : Int), .int .i64 (rr : Int)] 53) = wl := ⟨_, rfl⟩
        have kl : Keep w_9 wl := by rw [← hwl]; exact (Keep.refl w_9).alloc _ _
        have SL := Lib.hid (S9.out.keep kl)
        have tF : Turned (fun b => b = g) wr w_9 := ((T8.out.trans (Turned.of_keep (F := fun b => b = g) (Keep.refl w_8).drew) (fun b e => Or.inl e)).trans T9.out (fun b e => Or.inl e))
        have OWL : Hid (wl.ownsRow M 53 2 (.slice Ar i cr) i (rks.flatMap rankCells)) := owns_keep (tF.owns OW.out (fun b hb e => by have := (World.ownsRow.lt OW.out b hb).1; have := HWS.out; have := SL.out.o3; omega)) kl
        have hMl : M ≤ w_9.heap.size := Nat.le_trans hMr tF.size
        have HCL : Hid (∀ j u, [Value.int .u64 (rg : Int), .int .i64 (rr : Int)][j]? = some u → wl.cell? ⟨w_9.heap.size, j, none⟩ = some u) := fun j u hu => by
          rw [← hwl, cell_of_row _ _ _ _ _ _ (heap_alloc_new w_9 _)]
          simpa using hu
        have HSL : Hid (wl.heap.size = w_9.heap.size + 1) := by show _ = _; rw [← hwl]; simp
        rw [hwl]
        clear hwl kl tF S9
        have hHeld2 : (fun wz : World => wz.cell? ⟨gf, 11, none⟩ = some (.slice Ar i cr)) wl := SL.out.box.cell 11 _ rfl
        refine hK.out _ _ hHeld2 ?_
        clear hK K hHeld
        have hHeld := hHeld2
        clear hHeld2
        try simp only [Act.put, List.getElem_toArray, List.getElem_cons_succ, List.getElem_cons_zero, List.setIfInBounds_toArray, List.set_cons_zero, List.set_cons_succ]
        have hi9 : i ≤ 1000000 := by omega
        have HML : Hid (M ≤ wl.heap.size) := by have := HSL.out; show M ≤ _; omega
        refine wpTill_one (i := 8) (by kernel_rfl) rfl (fun K hK => ?_)
        refine step_append_cells rfl _ _ 26 rfl [.int .u64 (rg : Int), .int .i64 (rr : Int)] Tryd.underlying26 infoRank rfl (by decide) (by decide) rfl OWL.out rfl rfl HCL.out (by intro u hu; simp at hu; rcases hu with rfl | rfl <;> rfl) hi9 HML.out ?_
        intro A2 c2' we h7 g7 r7
        have T7 : Turned (fun b => (Value.slice Ar i cr).ownBlock = some b) wl we := Turned.of_grown g7 (fun i e => e)
        have hlo : ∀ b, (Value.slice Ar i cr).ownBlock = some b → M ≤ b := fun b hb => (World.ownsRow.lt OWL.out b hb).1
        have SA := Lib.hid (SL.out.turned T7 (fun b hb => by have := hlo b hb; have := HWS.out; omega))
        have OWA : Hid (we.ownsRow M 53 2 (.slice A2 (i + 1) c2') (i + 1) ((rks ++ [(rg, (rr : Int))]).flatMap rankCells)) := by
          show World.ownsRow _ _ _ _ _ _ _
          rw [List.flatMap_append]
          simpa [rankCells] using h7
        have hMe : M ≤ we.heap.size := Nat.le_trans HML.out T7.size
        clear h7 g7 r7 T7 hlo SL
        have hHeld2 : (fun wz : World => wz.cell? ⟨gf, 11, none⟩ = some (.slice Ar i cr)) we := SA.out.box.cell 11 _ rfl
        refine hK.out _ _ hHeld2 ?_
        clear hK K hHeld
        have hHeld := hHeld2
        clear hHeld2
        try simp only [Act.put, List.getElem_toArray, List.getElem_cons_succ, List.getElem_cons_zero, List.setIfInBounds_toArray, List.set_cons_zero, List.set_cons_succ]
        refine wpTill_free (i := 9) (v := ?_) rfl (by kernel_rfl) (by kernel_rfl) (by kernel_rfl) (by kernel_rfl) (fun _ _ _ h => h) (Or.inl ⟨by rfl, ?_⟩) hHeld ?_
        rotate_left
        · intro wq hSw
          go_simp
          all_goals with_reducible rfl
        try simp only [Act.put, List.getElem_toArray, List.getElem_cons_succ, List.getElem_cons_zero, List.setIfInBounds_toArray, List.set_cons_zero, List.set_cons_succ]
        refine wpTill_turn (t := 10) (by kernel_rfl) (by kernel_rfl) (by kernel_rfl) ?_
        clear hHeld
        have hHeld : (fun _ : World => True) we := trivial
        have bx := SA.out.box
        have y11 := bx.cell 11 _ rfl
        have z11 := bx.free 11
        skip
        clear bx
        have S10 := SA.out.set 11 (.slice A2 (i + 1) c2') (m' := (⟨⟨none, 0, 0⟩, ⟨none, 0, 0⟩, ⟨A2, i + 1, c2'⟩, ⟨none, 0, 0⟩, ⟨none, 0, 0⟩⟩ : FrM)) (f' := ⟨2, (s : Int), (d : Int), ep, lf, (fl : Int), gn, sq, 0, [], [], (rks ++ [(rg, (rr : Int))]), 0, [], []⟩) rfl
        obtain ⟨w_10, hw10⟩ : ∃ x, we.setCell ⟨gf, 11, none⟩ (.slice A2 (i + 1) c2') = x := ⟨_, rfl⟩
        rw [hw10] at S10
        have S10 := Lib.hid S10
        have t10 : Turned (fun b => b = gf) we w_10 := by rw [← hw10]; exact Turned.set _ _ _ rfl
        clear t10 SA
        refine wpAnyH_ready (rs := [10]) (by kernel_rfl) (by simp) ?_
        refine AllReadyH.cons rfl (fun K hK => ?_) AllReadyH.nil
        go_simp
        clear y11 z11
        have OWB : Hid (w_10.ownsRow M 53 2 (.slice A2 (i + 1) c2') (i + 1) ((rks ++ [(rg, (rr : Int))]).flatMap rankCells)) := by
          show World.ownsRow _ _ _ _ _ _ _
          rw [← hw10]
          exact (Turned.set (F := fun b => b = gf) we _ _ rfl).owns OWA.out (fun b hb e => by have := (World.ownsRow.lt OWA.out b hb).1; have := HWS.out; omega)
        have hMw : M ≤ w_10.heap.size := by rw [← hw10]; simpa [World.setCell] using hMe
        first | rw [hw10] | skip
        clear OWA hw10
        refine hK.out _ _ trivial (fun hHeld => ?_)
        clear hK K
        try simp only [Act.put, List.getElem_toArray, List.getElem_cons_succ, List.getElem_cons_zero, List.setIfInBounds_toArray, List.set_cons_zero, List.set_cons_succ]
        refine wpAnyH_done (by kernel_rfl) ?_ _
        refine NoPanic.normal ?_
        clear hHeld
        have MS2 : Hid (ManyS rankP st7 nk (i + 1) (rks ++ [(rg, (rr : Int))]) st9) := MS.out.step hlt (fun β Q => by rw [rankP, bind_assoc, Q8.out, bind_assoc, Q9.out]; rfl)
        have BD2 : Hid (∀ r ∈ rks ++ [(rg, (rr : Int))], U64 r.1 ∧ I64 r.2) := fun r hr => by
          rcases List.mem_append.1 hr with h1 | h1
          · exact HBD.out r h1
          · simp at h1
            subst h1
            unfold U64 I64
            dsimp only
            omega
        have RL2 : Hid ((rks ++ [(rg, (rr : Int))]).length = i + 1) := by show _ = _; rw [List.length_append, HRL.out, List.length_singleton]
        go_wp2_with fail
        go_roundw
        case rel => exact ⟨i + 1, A2, c2', _, _, by omega, by go_num, S10.out, MS2.out, OWB.out, RL2.out, BD2.out, hMw⟩
        case measure => simp [intOf]; omega
      | none =>
        obtain ⟨M1, hr1⟩ := TS.out.rd
        obtain ⟨Ax, cx, h1, _⟩ := hr1
        obtain ⟨c1, c2, _, _⟩ := two_cells h1
        clear h1 c1
        have e2 : (i : Int) < (nk : Int) := by omega
        have d2 : decide ((i : Int) < (nk : Int)) = true := decide_eq_true e2
        have y0 : wr.cell? ⟨gf, 0, none⟩ = some (.int .i64 2) := TS.out.box.cell 0 _ rfl
        go_upto_region 50 with fail
        clear y0
        have HP : parseF L = goO none (Pa.ret ⟨2, (s : Int), (d : Int), ep, lf, (fl : Int), gn, sq, 0, [], [], rks, 0, [], []⟩) ∨ (parseF L = none ∧ ¬ MayF ⟨2, (s : Int), (d : Int), ep, lf, (fl : Int), gn, sq, 0, [], [], rks, 0, [], []⟩) := by
          left
          rw [HQ.out, rest_2]
          unfold feedP
          rw [Q1.out, Q3.out, Q5.out, Q7.out, MS.out.stop (Or.inl rfl)]
        have HCON : ∀ (G : Nat → Prop) (w' : World), Turned G wr w' → (∀ b, G b → b ≤ gf) → FrIn w' w'.heap.size (⟨⟨none, 0, 0⟩, ⟨none, 0, 0⟩, ⟨Ar, i, cr⟩, ⟨none, 0, 0⟩, ⟨none, 0, 0⟩⟩ : FrM) ⟨2, (s : Int), (d : Int), ep, lf, (fl : Int), gn, sq, 0, [], [], rks, 0, [], []⟩ := by
          intro G w' kG hG
          have o1 := owns_stay OW.out (Turned.refl _ _) TS.out.o3 kG hG HWS.out
          exact ⟨Bytes.nil _ _ _, Bytes.nil _ _ _, ranks_owned o1 HRL.out, UpsAt.none_ _ _ _, HopsAt.none_ _ _ _, ⟨by simp [SlV.ok], by simp [SlV.ok], ⟨show i ≤ 140737488351232 by omega, show i ≤ cr from owns_le o1⟩, by simp [SlV.ok], by simp [SlV.ok]⟩, ⟨by unfold I64; dsimp only; omega, by unfold I64; dsimp only; omega, by unfold I64; dsimp only; omega, by unfold I64; dsimp only; omega⟩, ⟨by unfold U64; dsimp only; omega, by unfold U64; dsimp only; omega, by unfold U64; dsimp only; omega, by unfold U64; dsimp only; omega, by unfold U64; dsimp only; omega, by unfold U64; dsimp only; omega⟩, HBD.out, fun l hl => by simp at hl⟩
        exact rtk_end xs L W wr g2 g gf none (⟨⟨none, 0, 0⟩, ⟨none, 0, 0⟩, ⟨Ar, i, cr⟩, ⟨none, 0, 0⟩, ⟨none, 0, 0⟩⟩ : FrM) ⟨2, (s : Int), (d : Int), ep, lf, (fl : Int), gn, sq, 0, [], [], rks, 0, [], []⟩ TS.out HCON HP HE.out _ _ _ _ _ _ _ _ _ _ _ _ _ _ _ _ _ _ _ _ _ _ _ _ _ _ _ _ _ _ _ _ _ _ _ _ _ _ _ _ _ _ _ _ _ _ _ _ _ _ _ _ _ _ _ _ _ _ _ _ _ _ _ _ _ _ _ _ _ _ _ _ _ _ _ _ _ _ _ _ _ _ _ _ _ _ _ _ _ _ _ _ _ _ _ _ _ _ _ _ _ _ _ _ _ _ _ _ _ _ _ _ _ _ _ _ _ _ _ _ _ _ _ _ _ _ _ _ _ _ _ _ _ _ _ _ _ _ _ _ _ _ _ _ _ _ _ _ _ _ _ _ _ _ _ _ _ _ _ _ _ _ _ _ _ _ _ _ _ _ _ _ _ _ _ _ _ _ _ _ _ _ _ _ _ _ _ _ _ _ _ _ _ _ _ _ _ _ _ _ _ _ _ _ _ _ _ _ _ _ _ _ _ _ _ _ _ _ _ _ _ _ _ _ _ _ _ _ _ _ _ _ _ _ _ _ _ _ _ _ _ _ _ _ _ _ (by assumption) (by assumption)
    · have e2 : ¬ (i : Int) < (nk : Int) := by omega
      have d2 : decide ((i : Int) < (nk : Int)) = false := decide_eq_false e2
      have y0 : wr.cell? ⟨gf, 0, none⟩ = some (.int .i64 2) := TS.out.box.cell 0 _ rfl
      go_upto_region 50 with fail
      clear y0
      have HP : parseF L = goO oi (Pa.ret ⟨2, (s : Int), (d : Int), ep, lf, (fl : Int), gn, sq, 0, [], [], rks, 0, [], []⟩) ∨ (parseF L = none ∧ ¬ MayF ⟨2, (s : Int), (d : Int), ep, lf, (fl : Int), gn, sq, 0, [], [], rks, 0, [], []⟩) := by
        left
        rw [HQ.out, rest_2]
        unfold feedP
        rw [Q1.out, Q3.out, Q5.out, Q7.out, MS.out.stop (Or.inr (by omega))]
      have HCON : ∀ (G : Nat → Prop) (w' : World), Turned G wr w' → (∀ b, G b → b ≤ gf) → FrIn w' w'.heap.size (⟨⟨none, 0, 0⟩, ⟨none, 0, 0⟩, ⟨Ar, i, cr⟩, ⟨none, 0, 0⟩, ⟨none, 0, 0⟩⟩ : FrM) ⟨2, (s : Int), (d : Int), ep, lf, (fl : Int), gn, sq, 0, [], [], rks, 0, [], []⟩ := by
        intro G w' kG hG
        have o1 := owns_stay OW.out (Turned.refl _ _) TS.out.o3 kG hG HWS.out
        exact ⟨Bytes.nil _ _ _, Bytes.nil _ _ _, ranks_owned o1 HRL.out, UpsAt.none_ _ _ _, HopsAt.none_ _ _ _, ⟨by simp [SlV.ok], by simp [SlV.ok], ⟨show i ≤ 140737488351232 by omega, show i ≤ cr from owns_le o1⟩, by simp [SlV.ok], by simp [SlV.ok]⟩, ⟨by unfold I64; dsimp only; omega, by unfold I64; dsimp only; omega, by unfold I64; dsimp only; omega, by unfold I64; dsimp only; omega⟩, ⟨by unfold U64; dsimp only; omega, by unfold U64; dsimp only; omega, by unfold U64; dsimp only; omega, by unfold U64; dsimp only; omega, by unfold U64; dsimp only; omega, by unfold U64; dsimp only; omega⟩, HBD.out, fun l hl => by simp at hl⟩
      exact rtk_end xs L W wr g2 g gf oi (⟨⟨none, 0, 0⟩, ⟨none, 0, 0⟩, ⟨Ar, i, cr⟩, ⟨none, 0, 0⟩, ⟨none, 0, 0⟩⟩ : FrM) ⟨2, (s : Int), (d : Int), ep, lf, (fl : Int), gn, sq, 0, [], [], rks, 0, [], []⟩ TS.out HCON HP HE.out _ _ _ _ _ _ _ _ _ _ _ _ _ _ _ _ _ _ _ _ _ _ _ _ _ _ _ _ _ _ _ _ _ _ _ _ _ _ _ _ _ _ _ _ _ _ _ _ _ _ _ _ _ _ _ _ _ _ _ _ _ _ _ _ _ _ _ _ _ _ _ _ _ _ _ _ _ _ _ _ _ _ _ _ _ _ _ _ _ _ _ _ _ _ _ _ _ _ _ _ _ _ _ _ _ _ _ _ _ _ _ _ _ _ _ _ _ _ _ _ _ _ _ _ _ _ _ _ _ _ _ _ _ _ _ _ _ _ _ _ _ _ _ _ _ _ _ _ _ _ _ _ _ _ _ _ _ _ _ _ _ _ _ _ _ _ _ _ _ _ _ _ _ _ _ _ _ _ _ _ _ _ _ _ _ _ _ _ _ _ _ _ _ _ _ _ _ _ _ _ _ _ _ _ _ _ _ _ _ _ _ _ _ _ _ _ _ _ _ _ _ _ _ _ _ _ _ _ _ _ _ _ _ _ _ _ _ _ _ _ _ _ _ _ _ _ (by assumption) (by assumption)
end Go.Proofs.YtgkihfemlbhioaaDoor
/- The document's own frames, read: a kind. -/
namespace Go.Proofs.YtgkihfemlbhioaaDoor
open Go.RowKit Fr Crc
set_option linter.unusedVariables false
set_option linter.unusedSimpArgs false
set_option maxRecDepth 100000 in
set_option maxHeartbeats 16000000 in
theorem rtk_3 (xs L : List Nat) (W w : World) (g2 g gf : Nat) (st : Option (List Nat)) (s d ep lf : Nat) (hs : s < 256) (hd : d < 256) (hep : ep < 18446744073709551616) (hlf : lf < 18446744073709551616) (hS : Tk W g2 g gf w st noM ⟨3, (s : Int), (d : Int), ep, lf, 0, 0, 0, 0, [], [], [], 0, [], []⟩)
    (hq : parseF L = goO st (restP 3 s d ep lf)) (hE : EndTold xs L W) (s0 s1 s3 s4 s5 s8 s9 s10 s11 s12 s13 s14 s15 s16 s17 s18 s19 s20 s21 s22 s23 s24 s25 s26 s27 s28 s29 s30 s31 s32 s33 s34 s35 s36 s37 s38 s39 s40 s41 s42 s43 s44 s45 s46 s47 s48 s49 s50 s51 s52 s53 s54 s55 s56 s57 s58 s59 s60 s61 s62 s63 s64 s65 s66 s67 s68 s69 s70 s71 s72 s73 s74 s75 s76 s77 s78 s79 s80 s81 s82 s83 s84 s85 s86 s87 s88 s89 s90 s91 s92 s93 s94 s95 s96 s97 s98 s99 s100 s101 s102 s103 s104 s105 s106 s107 s108 s109 s110 s111 s112 s113 s114 s115 s116 s117 s118 s119 s120 s121 s122 s123 s124 s125 s126 s127 s128 s129 s130 s131 s132 s133 s134 s135 s136 s137 s138 s139 s140 s141 s142 s143 s144 s145 s146 s147 s148 s149 s150 s151 s152 s153 s154 s155 s156 s157 s158 s159 s160 s161 s162 s163 s164 s165 s166 s167 s168 s169 s170 s171 s172 s173 s174 s175 s176 s177 s178 s179 s180 s181 s182 s183 s184 s185 s186 s187 s188 s189 s190 s191 s192 s193 s194 s195 s196 s197 s198 s199 s200 s201 s202 s203 s204 s205 s206 s207 s208 s209 s210 s211 s212 s213 s214 s215 s216 s217 s218 s219 s220 s221 s222 s223 s224 s225 s226 s227 s228 s229 s230 s231 s232 s233 s234 s235 s236 s237 s238 s239 s240 s241 s242 s243 s244 s245 s246 : Value) :
    Code.wp Tryd.prog kindCode (bodyPost Tryd.prog Tryd.f12 (TakeTold xs W)) { tmps := #[s0, s1, .pointer (some ⟨g2, 0, none⟩), s3, s4, s5, .pointer (some ⟨g, 0, none⟩), .pointer (some ⟨gf, 0, none⟩), s8, s9, s10, s11, s12, s13, s14, s15, s16, s17, s18, s19, s20, s21, s22, s23, s24, s25, s26, s27, s28, s29, s30, s31, s32, s33, s34, s35, s36, s37, s38, s39, s40, s41, s42, s43, s44, s45, s46, s47, s48, s49, s50, s51, s52, s53, s54, s55, s56, s57, s58, s59, s60, s61, s62, s63, s64, s65, s66, s67, s68, s69, s70, s71, s72, s73, s74, s75, s76, s77, s78, s79, s80, s81, s82, s83, s84, s85, s86, s87, s88, s89, s90, s91, s92, s93, s94, s95, s96, s97, s98, s99, s100, s101, s102, s103, s104, s105, s106, s107, s108, s109, s110, s111, s112, s113, s114, s115, s116, s117, s118, s119, s120, s121, s122, s123, s124, s125, s126, s127, s128, s129, s130, s131, s132, s133, s134, s135, s136, s137, s138, s139, s140, s141, s142, s143, s144, s145, s146, s147, s148, s149, s150, s151, s152, s153, s154, s155, s156, s157, s158, s159, s160, s161, s162, s163, s164, s165, s166, s167, s168, s169, s170, s171, s172, s173, s174, s175, s176, s177, s178, s179, s180, s181, s182, s183, s184, s185, s186, s187, s188, s189, s190, s191, s192, s193, s194, s195, s196, s197, s198, s199, s200, s201, s202, s203, s204, s205, s206, s207, s208, s209, s210, s211, s212, s213, s214, s215, s216, s217, s218, s219, s220, s221, s222, s223, s224, s225, s226, s227, s228, s229, s230, s231, s232, s233, s234, s235, s236, s237, s238, s239, s240, s241, s242, s243, s244, s245, s246], defers := [] } w := by
  have HS := Lib.hid hS
  have HQ := Lib.hid hq
  have HE := Lib.hid hE
  clear hS hq hE
  conv => arg 2; whnf
  have y0 : w.cell? ⟨gf, 0, none⟩ = some (.int .i64 3) := HS.out.box.cell 0 _ rfl
  have HC1 := Lib.hid (rnum8 HS.out)
  go_wp2_with fail
  refine HC1.out.mono ?_
  rintro e w_1 ⟨sq, st1, rfl, bsq, r1, t1, q1⟩
  have S1 := Lib.hid r1
  have Q1 := Lib.hid q1
  have T1 := Lib.hid t1
  clear HC1 r1 q1 t1 HS
  clear y0
  have bx := S1.out.box
  have y7 := bx.cell 7 _ rfl
  have z7 := bx.free 7
  skip
  clear bx
  have S2 := S1.out.set 7 (.int .u64 (sq : Int)) (m' := noM) (f' := ⟨3, (s : Int), (d : Int), ep, lf, 0, 0, sq, 0, [], [], [], 0, [], []⟩) rfl
  obtain ⟨w_2, hw2⟩ : ∃ x, w_1.setCell ⟨gf, 7, none⟩ (.int .u64 (sq : Int)) = x := ⟨_, rfl⟩
  rw [hw2] at S2
  have S2 := Lib.hid S2
  have t2 : Turned (fun b => b = gf) w_1 w_2 := by rw [← hw2]; exact Turned.set _ _ _ rfl
  clear t2 S1
  have y0 : w_2.cell? ⟨gf, 0, none⟩ = some (.int .i64 3) := S2.out.box.cell 0 _ rfl
  have HC3 := Lib.hid (rnum8 S2.out)
  go_wp2_with fail
  clear y7 z7
  refine HC3.out.mono ?_
  rintro e w_3 ⟨fo, st3, rfl, bfo, r3, t3, q3⟩
  have S3 := Lib.hid r3
  have Q3 := Lib.hid q3
  have T3 := Lib.hid t3
  clear HC3 r3 q3 t3 S2
  clear y0
  have bx := S3.out.box
  have y8 := bx.cell 8 _ rfl
  have z8 := bx.free 8
  skip
  clear bx
  have S4 := S3.out.set 8 (.int .u64 (fo : Int)) (m' := noM) (f' := ⟨3, (s : Int), (d : Int), ep, lf, 0, 0, sq, fo, [], [], [], 0, [], []⟩) rfl
  obtain ⟨w_4, hw4⟩ : ∃ x, w_3.setCell ⟨gf, 8, none⟩ (.int .u64 (fo : Int)) = x := ⟨_, rfl⟩
  rw [hw4] at S4
  have S4 := Lib.hid S4
  have t4 : Turned (fun b => b = gf) w_3 w_4 := by rw [← hw4]; exact Turned.set _ _ _ rfl
  clear t4 S3
  have y0 : w_4.cell? ⟨gf, 0, none⟩ = some (.int .i64 3) := S4.out.box.cell 0 _ rfl
  go_upto_region 50 with fail
  clear y0
  clear y8 z8
  have HP : parseF L = goO st3 (Pa.ret ⟨3, (s : Int), (d : Int), ep, lf, 0, 0, sq, fo, [], [], [], 0, [], []⟩) ∨ (parseF L = none ∧ ¬ MayF ⟨3, (s : Int), (d : Int), ep, lf, 0, 0, sq, fo, [], [], [], 0, [], []⟩) := by
    left
    rw [HQ.out, rest_3]
    unfold credP
    rw [Q1.out, Q3.out]
  have HCON : ∀ (G : Nat → Prop) (w' : World), Turned G w_4 w' → (∀ b, G b → b ≤ gf) → FrIn w' w'.heap.size noM ⟨3, (s : Int), (d : Int), ep, lf, 0, 0, sq, fo, [], [], [], 0, [], []⟩ := by
    exact fun G w' kG hG => fr_plain w' _ rfl rfl rfl rfl rfl ⟨by unfold I64; dsimp only; omega, by unfold I64; dsimp only; omega, by unfold I64; dsimp only; omega, by unfold I64; dsimp only; omega⟩ ⟨by unfold U64; dsimp only; omega, by unfold U64; dsimp only; omega, by unfold U64; dsimp only; omega, by unfold U64; dsimp only; omega, by unfold U64; dsimp only; omega, by unfold U64; dsimp only; omega⟩
  exact rtk_end xs L W w_4 g2 g gf st3 noM ⟨3, (s : Int), (d : Int), ep, lf, 0, 0, sq, fo, [], [], [], 0, [], []⟩ S4.out HCON HP HE.out _ _ _ _ _ _ _ _ _ _ _ _ _ _ _ _ _ _ _ _ _ _ _ _ _ _ _ _ _ _ _ _ _ _ _ _ _ _ _ _ _ _ _ _ _ _ _ _ _ _ _ _ _ _ _ _ _ _ _ _ _ _ _ _ _ _ _ _ _ _ _ _ _ _ _ _ _ _ _ _ _ _ _ _ _ _ _ _ _ _ _ _ _ _ _ _ _ _ _ _ _ _ _ _ _ _ _ _ _ _ _ _ _ _ _ _ _ _ _ _ _ _ _ _ _ _ _ _ _ _ _ _ _ _ _ _ _ _ _ _ _ _ _ _ _ _ _ _ _ _ _ _ _ _ _ _ _ _ _ _ _ _ _ _ _ _ _ _ _ _ _ _ _ _ _ _ _ _ _ _ _ _ _ _ _ _ _ _ _ _ _ _ _ _ _ _ _ _ _ _ _ _ _ _ _ _ _ _ _ _ _ _ _ _ _ _ _ _ _ _ _ _ _ _ _ _ _ _ _ _ _ _ _ _ _ _ _ _ _ _ _ _ _ _ _ _ (by assumption) (by assumption)
end Go.Proofs.YtgkihfemlbhioaaDoor
/- The document's own frames, read: a kind. -/
namespace Go.Proofs.YtgkihfemlbhioaaDoor
open Go.RowKit Fr Crc
set_option linter.unusedVariables false
set_option linter.unusedSimpArgs false
set_option maxRecDepth 100000 in
set_option maxHeartbeats 16000000 in
theorem rtk_4 (xs L : List Nat) (W w : World) (g2 g gf : Nat) (st : Option (List Nat)) (s d ep lf : Nat) (hs : s < 256) (hd : d < 256) (hep : ep < 18446744073709551616) (hlf : lf < 18446744073709551616) (hS : Tk W g2 g gf w st noM ⟨4, (s : Int), (d : Int), ep, lf, 0, 0, 0, 0, [], [], [], 0, [], []⟩)
    (hq : parseF L = goO st (restP 4 s d ep lf)) (hE : EndTold xs L W) (s0 s1 s3 s4 s5 s8 s9 s10 s11 s12 s13 s14 s15 s16 s17 s18 s19 s20 s21 s22 s23 s24 s25 s26 s27 s28 s29 s30 s31 s32 s33 s34 s35 s36 s37 s38 s39 s40 s41 s42 s43 s44 s45 s46 s47 s48 s49 s50 s51 s52 s53 s54 s55 s56 s57 s58 s59 s60 s61 s62 s63 s64 s65 s66 s67 s68 s69 s70 s71 s72 s73 s74 s75 s76 s77 s78 s79 s80 s81 s82 s83 s84 s85 s86 s87 s88 s89 s90 s91 s92 s93 s94 s95 s96 s97 s98 s99 s100 s101 s102 s103 s104 s105 s106 s107 s108 s109 s110 s111 s112 s113 s114 s115 s116 s117 s118 s119 s120 s121 s122 s123 s124 s125 s126 s127 s128 s129 s130 s131 s132 s133 s134 s135 s136 s137 s138 s139 s140 s141 s142 s143 s144 s145 s146 s147 s148 s149 s150 s151 s152 s153 s154 s155 s156 s157 s158 s159 s160 s161 s162 s163 s164 s165 s166 s167 s168 s169 s170 s171 s172 s173 s174 s175 s176 s177 s178 s179 s180 s181 s182 s183 s184 s185 s186 s187 s188 s189 s190 s191 s192 s193 s194 s195 s196 s197 s198 s199 s200 s201 s202 s203 s204 s205 s206 s207 s208 s209 s210 s211 s212 s213 s214 s215 s216 s217 s218 s219 s220 s221 s222 s223 s224 s225 s226 s227 s228 s229 s230 s231 s232 s233 s234 s235 s236 s237 s238 s239 s240 s241 s242 s243 s244 s245 s246 : Value) :
    Code.wp Tryd.prog kindCode (bodyPost Tryd.prog Tryd.f12 (TakeTold xs W)) { tmps := #[s0, s1, .pointer (some ⟨g2, 0, none⟩), s3, s4, s5, .pointer (some ⟨g, 0, none⟩), .pointer (some ⟨gf, 0, none⟩), s8, s9, s10, s11, s12, s13, s14, s15, s16, s17, s18, s19, s20, s21, s22, s23, s24, s25, s26, s27, s28, s29, s30, s31, s32, s33, s34, s35, s36, s37, s38, s39, s40, s41, s42, s43, s44, s45, s46, s47, s48, s49, s50, s51, s52, s53, s54, s55, s56, s57, s58, s59, s60, s61, s62, s63, s64, s65, s66, s67, s68, s69, s70, s71, s72, s73, s74, s75, s76, s77, s78, s79, s80, s81, s82, s83, s84, s85, s86, s87, s88, s89, s90, s91, s92, s93, s94, s95, s96, s97, s98, s99, s100, s101, s102, s103, s104, s105, s106, s107, s108, s109, s110, s111, s112, s113, s114, s115, s116, s117, s118, s119, s120, s121, s122, s123, s124, s125, s126, s127, s128, s129, s130, s131, s132, s133, s134, s135, s136, s137, s138, s139, s140, s141, s142, s143, s144, s145, s146, s147, s148, s149, s150, s151, s152, s153, s154, s155, s156, s157, s158, s159, s160, s161, s162, s163, s164, s165, s166, s167, s168, s169, s170, s171, s172, s173, s174, s175, s176, s177, s178, s179, s180, s181, s182, s183, s184, s185, s186, s187, s188, s189, s190, s191, s192, s193, s194, s195, s196, s197, s198, s199, s200, s201, s202, s203, s204, s205, s206, s207, s208, s209, s210, s211, s212, s213, s214, s215, s216, s217, s218, s219, s220, s221, s222, s223, s224, s225, s226, s227, s228, s229, s230, s231, s232, s233, s234, s235, s236, s237, s238, s239, s240, s241, s242, s243, s244, s245, s246], defers := [] } w := by
  have HS := Lib.hid hS
  have HQ := Lib.hid hq
  have HE := Lib.hid hE
  clear hS hq hE
  conv => arg 2; whnf
  have y0 : w.cell? ⟨gf, 0, none⟩ = some (.int .i64 4) := HS.out.box.cell 0 _ rfl
  have HC1 := Lib.hid (rnum8 HS.out)
  go_wp2_with fail
  refine HC1.out.mono ?_
  rintro e w_1 ⟨sq, st1, rfl, bsq, r1, t1, q1⟩
  have S1 := Lib.hid r1
  have Q1 := Lib.hid q1
  have T1 := Lib.hid t1
  clear HC1 r1 q1 t1 HS
  clear y0
  have bx := S1.out.box
  have y7 := bx.cell 7 _ rfl
  have z7 := bx.free 7
  skip
  clear bx
  have S2 := S1.out.set 7 (.int .u64 (sq : Int)) (m' := noM) (f' := ⟨4, (s : Int), (d : Int), ep, lf, 0, 0, sq, 0, [], [], [], 0, [], []⟩) rfl
  obtain ⟨w_2, hw2⟩ : ∃ x, w_1.setCell ⟨gf, 7, none⟩ (.int .u64 (sq : Int)) = x := ⟨_, rfl⟩
  rw [hw2] at S2
  have S2 := Lib.hid S2
  have t2 : Turned (fun b => b = gf) w_1 w_2 := by rw [← hw2]; exact Turned.set _ _ _ rfl
  clear t2 S1
  have y0 : w_2.cell? ⟨gf, 0, none⟩ = some (.int .i64 4) := S2.out.box.cell 0 _ rfl
  go_upto_region 50 with fail
  clear y0
  clear y7 z7
  have HP : parseF L = goO st1 (Pa.ret ⟨4, (s : Int), (d : Int), ep, lf, 0, 0, sq, 0, [], [], [], 0, [], []⟩) ∨ (parseF L = none ∧ ¬ MayF ⟨4, (s : Int), (d : Int), ep, lf, 0, 0, sq, 0, [], [], [], 0, [], []⟩) := by
    left
    rw [HQ.out, rest_4]
    unfold probP
    rw [Q1.out]
  have HCON : ∀ (G : Nat → Prop) (w' : World), Turned G w_2 w' → (∀ b, G b → b ≤ gf) → FrIn w' w'.heap.size noM ⟨4, (s : Int), (d : Int), ep, lf, 0, 0, sq, 0, [], [], [], 0, [], []⟩ := by
    exact fun G w' kG hG => fr_plain w' _ rfl rfl rfl rfl rfl ⟨by unfold I64; dsimp only; omega, by unfold I64; dsimp only; omega, by unfold I64; dsimp only; omega, by unfold I64; dsimp only; omega⟩ ⟨by unfold U64; dsimp only; omega, by unfold U64; dsimp only; omega, by unfold U64; dsimp only; omega, by unfold U64; dsimp only; omega, by unfold U64; dsimp only; omega, by unfold U64; dsimp only; omega⟩
  exact rtk_end xs L W w_2 g2 g gf st1 noM ⟨4, (s : Int), (d : Int), ep, lf, 0, 0, sq, 0, [], [], [], 0, [], []⟩ S2.out HCON HP HE.out _ _ _ _ _ _ _ _ _ _ _ _ _ _ _ _ _ _ _ _ _ _ _ _ _ _ _ _ _ _ _ _ _ _ _ _ _ _ _ _ _ _ _ _ _ _ _ _ _ _ _ _ _ _ _ _ _ _ _ _ _ _ _ _ _ _ _ _ _ _ _ _ _ _ _ _ _ _ _ _ _ _ _ _ _ _ _ _ _ _ _ _ _ _ _ _ _ _ _ _ _ _ _ _ _ _ _ _ _ _ _ _ _ _ _ _ _ _ _ _ _ _ _ _ _ _ _ _ _ _ _ _ _ _ _ _ _ _ _ _ _ _ _ _ _ _ _ _ _ _ _ _ _ _ _ _ _ _ _ _ _ _ _ _ _ _ _ _ _ _ _ _ _ _ _ _ _ _ _ _ _ _ _ _ _ _ _ _ _ _ _ _ _ _ _ _ _ _ _ _ _ _ _ _ _ _ _ _ _ _ _ _ _ _ _ _ _ _ _ _ _ _ _ _ _ _ _ _ _ _ _ _ _ _ _ _ _ _ _ _ _ _ _ _ _ _ (by assumption) (by assumption)
end Go.Proofs.YtgkihfemlbhioaaDoor
/- The document's own frames, read: a kind. -/
namespace Go.Proofs.YtgkihfemlbhioaaDoor
open Go.RowKit Fr Crc
set_option linter.unusedVariables false
set_option linter.unusedSimpArgs false
set_option maxRecDepth 100000 in
set_option maxHeartbeats 16000000 in
theorem rtk_6 (xs L : List Nat) (W w : World) (g2 g gf : Nat) (st : Option (List Nat)) (s d ep lf : Nat) (hs : s < 256) (hd : d < 256) (hep : ep < 18446744073709551616) (hlf : lf < 18446744073709551616) (hS : Tk W g2 g gf w st noM ⟨6, (s : Int), (d : Int), ep, lf, 0, 0, 0, 0, [], [], [], 0, [], []⟩)
    (hq : parseF L = goO st (restP 6 s d ep lf)) (hE : EndTold xs L W) (s0 s1 s3 s4 s5 s8 s9 s10 s11 s12 s13 s14 s15 s16 s17 s18 s19 s20 s21 s22 s23 s24 s25 s26 s27 s28 s29 s30 s31 s32 s33 s34 s35 s36 s37 s38 s39 s40 s41 s42 s43 s44 s45 s46 s47 s48 s49 s50 s51 s52 s53 s54 s55 s56 s57 s58 s59 s60 s61 s62 s63 s64 s65 s66 s67 s68 s69 s70 s71 s72 s73 s74 s75 s76 s77 s78 s79 s80 s81 s82 s83 s84 s85 s86 s87 s88 s89 s90 s91 s92 s93 s94 s95 s96 s97 s98 s99 s100 s101 s102 s103 s104 s105 s106 s107 s108 s109 s110 s111 s112 s113 s114 s115 s116 s117 s118 s119 s120 s121 s122 s123 s124 s125 s126 s127 s128 s129 s130 s131 s132 s133 s134 s135 s136 s137 s138 s139 s140 s141 s142 s143 s144 s145 s146 s147 s148 s149 s150 s151 s152 s153 s154 s155 s156 s157 s158 s159 s160 s161 s162 s163 s164 s165 s166 s167 s168 s169 s170 s171 s172 s173 s174 s175 s176 s177 s178 s179 s180 s181 s182 s183 s184 s185 s186 s187 s188 s189 s190 s191 s192 s193 s194 s195 s196 s197 s198 s199 s200 s201 s202 s203 s204 s205 s206 s207 s208 s209 s210 s211 s212 s213 s214 s215 s216 s217 s218 s219 s220 s221 s222 s223 s224 s225 s226 s227 s228 s229 s230 s231 s232 s233 s234 s235 s236 s237 s238 s239 s240 s241 s242 s243 s244 s245 s246 : Value) :
    Code.wp Tryd.prog kindCode (bodyPost Tryd.prog Tryd.f12 (TakeTold xs W)) { tmps := #[s0, s1, .pointer (some ⟨g2, 0, none⟩), s3, s4, s5, .pointer (some ⟨g, 0, none⟩), .pointer (some ⟨gf, 0, none⟩), s8, s9, s10, s11, s12, s13, s14, s15, s16, s17, s18, s19, s20, s21, s22, s23, s24, s25, s26, s27, s28, s29, s30, s31, s32, s33, s34, s35, s36, s37, s38, s39, s40, s41, s42, s43, s44, s45, s46, s47, s48, s49, s50, s51, s52, s53, s54, s55, s56, s57, s58, s59, s60, s61, s62, s63, s64, s65, s66, s67, s68, s69, s70, s71, s72, s73, s74, s75, s76, s77, s78, s79, s80, s81, s82, s83, s84, s85, s86, s87, s88, s89, s90, s91, s92, s93, s94, s95, s96, s97, s98, s99, s100, s101, s102, s103, s104, s105, s106, s107, s108, s109, s110, s111, s112, s113, s114, s115, s116, s117, s118, s119, s120, s121, s122, s123, s124, s125, s126, s127, s128, s129, s130, s131, s132, s133, s134, s135, s136, s137, s138, s139, s140, s141, s142, s143, s144, s145, s146, s147, s148, s149, s150, s151, s152, s153, s154, s155, s156, s157, s158, s159, s160, s161, s162, s163, s164, s165, s166, s167, s168, s169, s170, s171, s172, s173, s174, s175, s176, s177, s178, s179, s180, s181, s182, s183, s184, s185, s186, s187, s188, s189, s190, s191, s192, s193, s194, s195, s196, s197, s198, s199, s200, s201, s202, s203, s204, s205, s206, s207, s208, s209, s210, s211, s212, s213, s214, s215, s216, s217, s218, s219, s220, s221, s222, s223, s224, s225, s226, s227, s228, s229, s230, s231, s232, s233, s234, s235, s236, s237, s238, s239, s240, s241, s242, s243, s244, s245, s246], defers := [] } w := by
  have HS := Lib.hid hS
  have HQ := Lib.hid hq
  have HE := Lib.hid hE
  clear hS hq hE
  conv => arg 2; whnf
  have y0 : w.cell? ⟨gf, 0, none⟩ = some (.int .i64 6) := HS.out.box.cell 0 _ rfl
  have HC1 := Lib.hid (rnum1 HS.out)
  go_wp2_with fail
  refine HC1.out.mono ?_
  rintro e w_1 ⟨fl, st1, rfl, bfl, r1, t1, q1⟩
  have S1 := Lib.hid r1
  have Q1 := Lib.hid q1
  have T1 := Lib.hid t1
  have wrfl : IntKind.i64.wrap (fl : Int) = (fl : Int) := IntWalk.i64_in _ (by omega)
  clear HC1 r1 q1 t1 HS
  clear y0
  have bx := S1.out.box
  have y5 := bx.cell 5 _ rfl
  have z5 := bx.free 5
  skip
  clear bx
  have S2 := S1.out.set 5 (.int .i64 (fl : Int)) (m' := noM) (f' := ⟨6, (s : Int), (d : Int), ep, lf, (fl : Int), 0, 0, 0, [], [], [], 0, [], []⟩) rfl
  obtain ⟨w_2, hw2⟩ : ∃ x, w_1.setCell ⟨gf, 5, none⟩ (.int .i64 (fl : Int)) = x := ⟨_, rfl⟩
  rw [hw2] at S2
  have S2 := Lib.hid S2
  have t2 : Turned (fun b => b = gf) w_1 w_2 := by rw [← hw2]; exact Turned.set _ _ _ rfl
  clear t2 S1
  have HC3 := Lib.hid (rnum8 S2.out)
  go_wp2_with fail
  clear y5 z5
  refine HC3.out.mono ?_
  rintro e w_3 ⟨gn, st3, rfl, bgn, r3, t3, q3⟩
  have S3 := Lib.hid r3
  have Q3 := Lib.hid q3
  have T3 := Lib.hid t3
  clear HC3 r3 q3 t3 S2
  have bx := S3.out.box
  have y6 := bx.cell 6 _ rfl
  have z6 := bx.free 6
  skip
  clear bx
  have S4 := S3.out.set 6 (.int .u64 (gn : Int)) (m' := noM) (f' := ⟨6, (s : Int), (d : Int), ep, lf, (fl : Int), gn, 0, 0, [], [], [], 0, [], []⟩) rfl
  obtain ⟨w_4, hw4⟩ : ∃ x, w_3.setCell ⟨gf, 6, none⟩ (.int .u64 (gn : Int)) = x := ⟨_, rfl⟩
  rw [hw4] at S4
  have S4 := Lib.hid S4
  have t4 : Turned (fun b => b = gf) w_3 w_4 := by rw [← hw4]; exact Turned.set _ _ _ rfl
  clear t4 S3
  have y0 : w_4.cell? ⟨gf, 0, none⟩ = some (.int .i64 6) := S4.out.box.cell 0 _ rfl
  go_upto_region 50 with fail
  clear y0
  clear y6 z6
  have HP : parseF L = goO st3 (Pa.ret ⟨6, (s : Int), (d : Int), ep, lf, (fl : Int), gn, 0, 0, [], [], [], 0, [], []⟩) ∨ (parseF L = none ∧ ¬ MayF ⟨6, (s : Int), (d : Int), ep, lf, (fl : Int), gn, 0, 0, [], [], [], 0, [], []⟩) := by
    left
    rw [HQ.out, rest_6]
    unfold closP
    rw [Q1.out, Q3.out]
  have HCON : ∀ (G : Nat → Prop) (w' : World), Turned G w_4 w' → (∀ b, G b → b ≤ gf) → FrIn w' w'.heap.size noM ⟨6, (s : Int), (d : Int), ep, lf, (fl : Int), gn, 0, 0, [], [], [], 0, [], []⟩ := by
    exact fun G w' kG hG => fr_plain w' _ rfl rfl rfl rfl rfl ⟨by unfold I64; dsimp only; omega, by unfold I64; dsimp only; omega, by unfold I64; dsimp only; omega, by unfold I64; dsimp only; omega⟩ ⟨by unfold U64; dsimp only; omega, by unfold U64; dsimp only; omega, by unfold U64; dsimp only; omega, by unfold U64; dsimp only; omega, by unfold U64; dsimp only; omega, by unfold U64; dsimp only; omega⟩
  exact rtk_end xs L W w_4 g2 g gf st3 noM ⟨6, (s : Int), (d : Int), ep, lf, (fl : Int), gn, 0, 0, [], [], [], 0, [], []⟩ S4.out HCON HP HE.out _ _ _ _ _ _ _ _ _ _ _ _ _ _ _ _ _ _ _ _ _ _ _ _ _ _ _ _ _ _ _ _ _ _ _ _ _ _ _ _ _ _ _ _ _ _ _ _ _ _ _ _ _ _ _ _ _ _ _ _ _ _ _ _ _ _ _ _ _ _ _ _ _ _ _ _ _ _ _ _ _ _ _ _ _ _ _ _ _ _ _ _ _ _ _ _ _ _ _ _ _ _ _ _ _ _ _ _ _ _ _ _ _ _ _ _ _ _ _ _ _ _ _ _ _ _ _ _ _ _ _ _ _ _ _ _ _ _ _ _ _ _ _ _ _ _ _ _ _ _ _ _ _ _ _ _ _ _ _ _ _ _ _ _ _ _ _ _ _ _ _ _ _ _ _ _ _ _ _ _ _ _ _ _ _ _ _ _ _ _ _ _ _ _ _ _ _ _ _ _ _ _ _ _ _ _ _ _ _ _ _ _ _ _ _ _ _ _ _ _ _ _ _ _ _ _ _ _ _ _ _ _ _ _ _ _ _ _ _ _ _ _ _ _ _ _ (by assumption) (by assumption)
end Go.Proofs.YtgkihfemlbhioaaDoor
/- The document's own frames, read: a kind. -/
namespace Go.Proofs.YtgkihfemlbhioaaDoor
open Go.RowKit Fr Crc
set_option linter.unusedVariables false
set_option linter.unusedSimpArgs false
set_option maxRecDepth 100000 in
set_option maxHeartbeats 16000000 in
theorem rtk_x (xs L : List Nat) (W w : World) (g2 g gf : Nat) (st : Option (List Nat)) (k s d ep lf : Nat) (hk : k = 0 ∨ 6 < k) (hk2 : k < 256) (hs : s < 256) (hd : d < 256) (hep : ep < 18446744073709551616) (hlf : lf < 18446744073709551616) (hS : Tk W g2 g gf w st noM ⟨(k : Int), (s : Int), (d : Int), ep, lf, 0, 0, 0, 0, [], [], [], 0, [], []⟩)
    (hq : parseF L = goO st (restP k s d ep lf)) (hE : EndTold xs L W) (s0 s1 s3 s4 s5 s8 s9 s10 s11 s12 s13 s14 s15 s16 s17 s18 s19 s20 s21 s22 s23 s24 s25 s26 s27 s28 s29 s30 s31 s32 s33 s34 s35 s36 s37 s38 s39 s40 s41 s42 s43 s44 s45 s46 s47 s48 s49 s50 s51 s52 s53 s54 s55 s56 s57 s58 s59 s60 s61 s62 s63 s64 s65 s66 s67 s68 s69 s70 s71 s72 s73 s74 s75 s76 s77 s78 s79 s80 s81 s82 s83 s84 s85 s86 s87 s88 s89 s90 s91 s92 s93 s94 s95 s96 s97 s98 s99 s100 s101 s102 s103 s104 s105 s106 s107 s108 s109 s110 s111 s112 s113 s114 s115 s116 s117 s118 s119 s120 s121 s122 s123 s124 s125 s126 s127 s128 s129 s130 s131 s132 s133 s134 s135 s136 s137 s138 s139 s140 s141 s142 s143 s144 s145 s146 s147 s148 s149 s150 s151 s152 s153 s154 s155 s156 s157 s158 s159 s160 s161 s162 s163 s164 s165 s166 s167 s168 s169 s170 s171 s172 s173 s174 s175 s176 s177 s178 s179 s180 s181 s182 s183 s184 s185 s186 s187 s188 s189 s190 s191 s192 s193 s194 s195 s196 s197 s198 s199 s200 s201 s202 s203 s204 s205 s206 s207 s208 s209 s210 s211 s212 s213 s214 s215 s216 s217 s218 s219 s220 s221 s222 s223 s224 s225 s226 s227 s228 s229 s230 s231 s232 s233 s234 s235 s236 s237 s238 s239 s240 s241 s242 s243 s244 s245 s246 : Value) :
    Code.wp Tryd.prog kindCode (bodyPost Tryd.prog Tryd.f12 (TakeTold xs W)) { tmps := #[s0, s1, .pointer (some ⟨g2, 0, none⟩), s3, s4, s5, .pointer (some ⟨g, 0, none⟩), .pointer (some ⟨gf, 0, none⟩), s8, s9, s10, s11, s12, s13, s14, s15, s16, s17, s18, s19, s20, s21, s22, s23, s24, s25, s26, s27, s28, s29, s30, s31, s32, s33, s34, s35, s36, s37, s38, s39, s40, s41, s42, s43, s44, s45, s46, s47, s48, s49, s50, s51, s52, s53, s54, s55, s56, s57, s58, s59, s60, s61, s62, s63, s64, s65, s66, s67, s68, s69, s70, s71, s72, s73, s74, s75, s76, s77, s78, s79, s80, s81, s82, s83, s84, s85, s86, s87, s88, s89, s90, s91, s92, s93, s94, s95, s96, s97, s98, s99, s100, s101, s102, s103, s104, s105, s106, s107, s108, s109, s110, s111, s112, s113, s114, s115, s116, s117, s118, s119, s120, s121, s122, s123, s124, s125, s126, s127, s128, s129, s130, s131, s132, s133, s134, s135, s136, s137, s138, s139, s140, s141, s142, s143, s144, s145, s146, s147, s148, s149, s150, s151, s152, s153, s154, s155, s156, s157, s158, s159, s160, s161, s162, s163, s164, s165, s166, s167, s168, s169, s170, s171, s172, s173, s174, s175, s176, s177, s178, s179, s180, s181, s182, s183, s184, s185, s186, s187, s188, s189, s190, s191, s192, s193, s194, s195, s196, s197, s198, s199, s200, s201, s202, s203, s204, s205, s206, s207, s208, s209, s210, s211, s212, s213, s214, s215, s216, s217, s218, s219, s220, s221, s222, s223, s224, s225, s226, s227, s228, s229, s230, s231, s232, s233, s234, s235, s236, s237, s238, s239, s240, s241, s242, s243, s244, s245, s246], defers := [] } w := by
  have HS := Lib.hid hS
  have HQ := Lib.hid hq
  have HE := Lib.hid hE
  clear hS hq hE
  conv => arg 2; whnf
  have e1 : ((k : Int) == 1) = false := beq_eq_false_iff_ne.2 (by omega)
  have e2 : ((k : Int) == 2) = false := beq_eq_false_iff_ne.2 (by omega)
  have e3 : ((k : Int) == 3) = false := beq_eq_false_iff_ne.2 (by omega)
  have e4 : ((k : Int) == 4) = false := beq_eq_false_iff_ne.2 (by omega)
  have e5 : ((k : Int) == 5) = false := beq_eq_false_iff_ne.2 (by omega)
  have e6 : ((k : Int) == 6) = false := beq_eq_false_iff_ne.2 (by omega)
  rcases hk with h0 | h7
  · have x1 : decide ((1 : Int) ≤ (k : Int)) = false := decide_eq_false (by omega)
    have x2 : ¬ (1 : Int) ≤ (k : Int) := by omega
    have y0 : w.cell? ⟨gf, 0, none⟩ = some (.int .i64 (k : Int)) := HS.out.box.cell 0 _ rfl
    go_upto_region 50 with fail
    clear y0
    have HP : parseF L = goO st (Pa.ret ⟨(k : Int), (s : Int), (d : Int), ep, lf, 0, 0, 0, 0, [], [], [], 0, [], []⟩) ∨ (parseF L = none ∧ ¬ MayF ⟨(k : Int), (s : Int), (d : Int), ep, lf, 0, 0, 0, 0, [], [], [], 0, [], []⟩) := by
      right
      refine ⟨by rw [HQ.out, rest_fail (by omega)]; cases st <;> rfl, fun hm => by have h1 := hm.k1; have h2 := hm.k6; dsimp only at h1 h2; omega⟩
    have HCON : ∀ (G : Nat → Prop) (w' : World), Turned G w w' → (∀ b, G b → b ≤ gf) → FrIn w' w'.heap.size noM ⟨(k : Int), (s : Int), (d : Int), ep, lf, 0, 0, 0, 0, [], [], [], 0, [], []⟩ := by
      exact fun G w' kG hG => fr_plain w' _ rfl rfl rfl rfl rfl ⟨by unfold I64; dsimp only; omega, by unfold I64; dsimp only; omega, by unfold I64; dsimp only; omega, by unfold I64; dsimp only; omega⟩ ⟨by unfold U64; dsimp only; omega, by unfold U64; dsimp only; omega, by unfold U64; dsimp only; omega, by unfold U64; dsimp only; omega, by unfold U64; dsimp only; omega, by unfold U64; dsimp only; omega⟩
    exact rtk_end xs L W w g2 g gf st noM ⟨(k : Int), (s : Int), (d : Int), ep, lf, 0, 0, 0, 0, [], [], [], 0, [], []⟩ HS.out HCON HP HE.out _ _ _ _ _ _ _ _ _ _ _ _ _ _ _ _ _ _ _ _ _ _ _ _ _ _ _ _ _ _ _ _ _ _ _ _ _ _ _ _ _ _ _ _ _ _ _ _ _ _ _ _ _ _ _ _ _ _ _ _ _ _ _ _ _ _ _ _ _ _ _ _ _ _ _ _ _ _ _ _ _ _ _ _ _ _ _ _ _ _ _ _ _ _ _ _ _ _ _ _ _ _ _ _ _ _ _ _ _ _ _ _ _ _ _ _ _ _ _ _ _ _ _ _ _ _ _ _ _ _ _ _ _ _ _ _ _ _ _ _ _ _ _ _ _ _ _ _ _ _ _ _ _ _ _ _ _ _ _ _ _ _ _ _ _ _ _ _ _ _ _ _ _ _ _ _ _ _ _ _ _ _ _ _ _ _ _ _ _ _ _ _ _ _ _ _ _ _ _ _ _ _ _ _ _ _ _ _ _ _ _ _ _ _ _ _ _ _ _ _ _ _ _ _ _ _ _ _ _ _ _ _ _ _ _ _ _ _ _ _ _ _ _ _ _ _ (by assumption) (by assumption)
  · have x1 : decide ((1 : Int) ≤ (k : Int)) = true := decide_eq_true (by omega)
    have x2 : (1 : Int) ≤ (k : Int) := by omega
    have x3 : decide ((k : Int) ≤ 4) = false := decide_eq_false (by omega)
    have x4 : ¬ (k : Int) ≤ 4 := by omega
    have y0 : w.cell? ⟨gf, 0, none⟩ = some (.int .i64 (k : Int)) := HS.out.box.cell 0 _ rfl
    go_upto_region 50 with fail
    clear y0
    have HP : parseF L = goO st (Pa.ret ⟨(k : Int), (s : Int), (d : Int), ep, lf, 0, 0, 0, 0, [], [], [], 0, [], []⟩) ∨ (parseF L = none ∧ ¬ MayF ⟨(k : Int), (s : Int), (d : Int), ep, lf, 0, 0, 0, 0, [], [], [], 0, [], []⟩) := by
      right
      refine ⟨by rw [HQ.out, rest_fail (by omega)]; cases st <;> rfl, fun hm => by have h1 := hm.k1; have h2 := hm.k6; dsimp only at h1 h2; omega⟩
    have HCON : ∀ (G : Nat → Prop) (w' : World), Turned G w w' → (∀ b, G b → b ≤ gf) → FrIn w' w'.heap.size noM ⟨(k : Int), (s : Int), (d : Int), ep, lf, 0, 0, 0, 0, [], [], [], 0, [], []⟩ := by
      exact fun G w' kG hG => fr_plain w' _ rfl rfl rfl rfl rfl ⟨by unfold I64; dsimp only; omega, by unfold I64; dsimp only; omega, by unfold I64; dsimp only; omega, by unfold I64; dsimp only; omega⟩ ⟨by unfold U64; dsimp only; omega, by unfold U64; dsimp only; omega, by unfold U64; dsimp only; omega, by unfold U64; dsimp only; omega, by unfold U64; dsimp only; omega, by unfold U64; dsimp only; omega⟩
    exact rtk_end xs L W w g2 g gf st noM ⟨(k : Int), (s : Int), (d : Int), ep, lf, 0, 0, 0, 0, [], [], [], 0, [], []⟩ HS.out HCON HP HE.out _ _ _ _ _ _ _ _ _ _ _ _ _ _ _ _ _ _ _ _ _ _ _ _ _ _ _ _ _ _ _ _ _ _ _ _ _ _ _ _ _ _ _ _ _ _ _ _ _ _ _ _ _ _ _ _ _ _ _ _ _ _ _ _ _ _ _ _ _ _ _ _ _ _ _ _ _ _ _ _ _ _ _ _ _ _ _ _ _ _ _ _ _ _ _ _ _ _ _ _ _ _ _ _ _ _ _ _ _ _ _ _ _ _ _ _ _ _ _ _ _ _ _ _ _ _ _ _ _ _ _ _ _ _ _ _ _ _ _ _ _ _ _ _ _ _ _ _ _ _ _ _ _ _ _ _ _ _ _ _ _ _ _ _ _ _ _ _ _ _ _ _ _ _ _ _ _ _ _ _ _ _ _ _ _ _ _ _ _ _ _ _ _ _ _ _ _ _ _ _ _ _ _ _ _ _ _ _ _ _ _ _ _ _ _ _ _ _ _ _ _ _ _ _ _ _ _ _ _ _ _ _ _ _ _ _ _ _ _ _ _ _ _ _ _ _ (by assumption) (by assumption)
end Go.Proofs.YtgkihfemlbhioaaDoor
