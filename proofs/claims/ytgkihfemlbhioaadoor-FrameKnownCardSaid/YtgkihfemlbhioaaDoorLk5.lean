/- The walk of FrameKnown: its last statement. -/
import Derived.Test.YtgkihfemlbhioaaDoorLk3
import Derived.Deep.DeepCutAuto
import Derived.Deep.CutBlock
namespace Go.Proofs.YtgkihfemlbhioaaDoor
open Go.RowKit Fr Crc
set_option linter.unusedVariables false
set_option linter.unusedSimpArgs false
def isReg (n : Nat) : Code → Bool
  | .region k _ _ => k == n
  | .seq a _ => isReg n a
  | _ => false
def tailOf (n : Nat) : Code → Code
  | .seq a b => if isReg n a then .seq a b else tailOf n b
  | c => c
def headOf : Code → Code
  | .seq a _ => a
  | c => c
def restOf : Code → Code
  | .seq _ b => b
  | c => c
noncomputable def tailCode : Code := tailOf 13 (Tryd.f8.body.getD .skip)
noncomputable def lastCode : Code := headOf (tailOf 21 (Tryd.f8.body.getD .skip))
noncomputable def lastRest : Code := restOf (tailOf 21 (Tryd.f8.body.getD .skip))
set_option maxRecDepth 100000 in
set_option maxHeartbeats 16000000 in
theorem known_last (w13 w : World) (g6 g9 g10 g11 g12 : Nat) (mc mp mr mu mh qc qp qr qu qh : Option Addr) (mcn mcc mpn mpc mrn mrc mun muc mhn mhc qcn qcc qpn qpc qrn qrc qun quc qhn qhc : Nat) (hT : TabW w13) (kw : Keep w w13)
    (B0 : Hid (∀ wr, Keep w13 wr → (wr.cell? ⟨(g6 + 1), 0, none⟩ = some (.int .i64 2) ∧ wr.cell? ⟨(g6 + 1), 1, none⟩ = some (.int .i64 0) ∧ wr.cell? ⟨(g6 + 1), 2, none⟩ = some (.int .i64 1) ∧ wr.cell? ⟨(g6 + 1), 3, none⟩ = some (.int .u64 0) ∧ wr.cell? ⟨(g6 + 1), 4, none⟩ = some (.int .u64 1)) ∧ (wr.cell? ⟨(g6 + 1), 5, none⟩ = some (.int .i64 0) ∧ wr.cell? ⟨(g6 + 1), 6, none⟩ = some (.int .u64 1099511627774) ∧ wr.cell? ⟨(g6 + 1), 7, none⟩ = some (.int .u64 1) ∧ wr.cell? ⟨(g6 + 1), 8, none⟩ = some (.int .u64 0)) ∧ (wr.cell? ⟨(g6 + 1), 9, none⟩ = some (.slice none 0 0) ∧ wr.cell? ⟨(g6 + 1), 10, none⟩ = some (.slice none 0 0) ∧ wr.cell? ⟨(g6 + 1), 11, none⟩ = some (.slice (some ⟨g6, 0, none⟩) 1 1)) ∧ wr.cell? ⟨(g6 + 1), 12, none⟩ = some (.int .u64 0) ∧ wr.cell? ⟨(g6 + 1), 13, none⟩ = some (.slice none 0 0) ∧ wr.cell? ⟨(g6 + 1), 14, none⟩ = some (.slice none 0 0)))
    (M0 : Hid (∀ wx, Keep w13 wx → Calls Tryd.prog 14 #[.agg #[.int .i64 2, .int .i64 0, .int .i64 1, .int .u64 0, .int .u64 1, .int .i64 0, .int .u64 1099511627774, .int .u64 1, .int .u64 0, .slice none 0 0, .slice none 0 0, .slice (some ⟨g6, 0, none⟩) 1 1, .int .u64 0, .slice none 0 0, .slice none 0 0]] wx fun e w' => e = .returned (.bool true) ∧ Keep wx w'))
    (B1 : Hid (∀ wr, Keep w13 wr → (wr.cell? ⟨g9, 0, none⟩ = some (.int .i64 2) ∧ wr.cell? ⟨g9, 1, none⟩ = some (.int .i64 0) ∧ wr.cell? ⟨g9, 2, none⟩ = some (.int .i64 1) ∧ wr.cell? ⟨g9, 3, none⟩ = some (.int .u64 0) ∧ wr.cell? ⟨g9, 4, none⟩ = some (.int .u64 1)) ∧ (wr.cell? ⟨g9, 5, none⟩ = some (.int .i64 0) ∧ wr.cell? ⟨g9, 6, none⟩ = some (.int .u64 1099511627774) ∧ wr.cell? ⟨g9, 7, none⟩ = some (.int .u64 1) ∧ wr.cell? ⟨g9, 8, none⟩ = some (.int .u64 0)) ∧ (wr.cell? ⟨g9, 9, none⟩ = some (.slice none 0 0) ∧ wr.cell? ⟨g9, 10, none⟩ = some (.slice none 0 0) ∧ wr.cell? ⟨g9, 11, none⟩ = some (.slice (some ⟨g9 + 1, 0, none⟩) 1 1)) ∧ wr.cell? ⟨g9, 12, none⟩ = some (.int .u64 0) ∧ wr.cell? ⟨g9, 13, none⟩ = some (.slice none 0 0) ∧ wr.cell? ⟨g9, 14, none⟩ = some (.slice none 0 0)))
    (M1 : Hid (∀ wx, Keep w13 wx → Calls Tryd.prog 14 #[.agg #[.int .i64 2, .int .i64 0, .int .i64 1, .int .u64 0, .int .u64 1, .int .i64 0, .int .u64 1099511627774, .int .u64 1, .int .u64 0, .slice none 0 0, .slice none 0 0, .slice (some ⟨g9 + 1, 0, none⟩) 1 1, .int .u64 0, .slice none 0 0, .slice none 0 0]] wx fun e w' => e = .returned (.bool false) ∧ Keep wx w'))
    (B2 : Hid (∀ wr, Keep w13 wr → (wr.cell? ⟨g10, 0, none⟩ = some (.int .i64 2) ∧ wr.cell? ⟨g10, 1, none⟩ = some (.int .i64 0) ∧ wr.cell? ⟨g10, 2, none⟩ = some (.int .i64 1) ∧ wr.cell? ⟨g10, 3, none⟩ = some (.int .u64 0) ∧ wr.cell? ⟨g10, 4, none⟩ = some (.int .u64 1)) ∧ (wr.cell? ⟨g10, 5, none⟩ = some (.int .i64 0) ∧ wr.cell? ⟨g10, 6, none⟩ = some (.int .u64 1099511627774) ∧ wr.cell? ⟨g10, 7, none⟩ = some (.int .u64 1) ∧ wr.cell? ⟨g10, 8, none⟩ = some (.int .u64 0)) ∧ (wr.cell? ⟨g10, 9, none⟩ = some (.slice none 0 0) ∧ wr.cell? ⟨g10, 10, none⟩ = some (.slice none 0 0) ∧ wr.cell? ⟨g10, 11, none⟩ = some (.slice (some ⟨g10 + 1, 0, none⟩) 2 2)) ∧ wr.cell? ⟨g10, 12, none⟩ = some (.int .u64 0) ∧ wr.cell? ⟨g10, 13, none⟩ = some (.slice none 0 0) ∧ wr.cell? ⟨g10, 14, none⟩ = some (.slice none 0 0)))
    (M2 : Hid (∀ wx, Keep w13 wx → Calls Tryd.prog 14 #[.agg #[.int .i64 2, .int .i64 0, .int .i64 1, .int .u64 0, .int .u64 1, .int .i64 0, .int .u64 1099511627774, .int .u64 1, .int .u64 0, .slice none 0 0, .slice none 0 0, .slice (some ⟨g10 + 1, 0, none⟩) 2 2, .int .u64 0, .slice none 0 0, .slice none 0 0]] wx fun e w' => e = .returned (.bool false) ∧ Keep wx w'))
    (B3 : Hid (∀ wr, Keep w13 wr → (wr.cell? ⟨g11, 0, none⟩ = some (.int .i64 5) ∧ wr.cell? ⟨g11, 1, none⟩ = some (.int .i64 2) ∧ wr.cell? ⟨g11, 2, none⟩ = some (.int .i64 2) ∧ wr.cell? ⟨g11, 3, none⟩ = some (.int .u64 0) ∧ wr.cell? ⟨g11, 4, none⟩ = some (.int .u64 0)) ∧ (wr.cell? ⟨g11, 5, none⟩ = some (.int .i64 0) ∧ wr.cell? ⟨g11, 6, none⟩ = some (.int .u64 0) ∧ wr.cell? ⟨g11, 7, none⟩ = some (.int .u64 0) ∧ wr.cell? ⟨g11, 8, none⟩ = some (.int .u64 0)) ∧ (wr.cell? ⟨g11, 9, none⟩ = some (.slice mc mcn mcc) ∧ wr.cell? ⟨g11, 10, none⟩ = some (.slice mp mpn mpc) ∧ wr.cell? ⟨g11, 11, none⟩ = some (.slice mr mrn mrc)) ∧ wr.cell? ⟨g11, 12, none⟩ = some (.int .u64 1) ∧ wr.cell? ⟨g11, 13, none⟩ = some (.slice mu mun muc) ∧ wr.cell? ⟨g11, 14, none⟩ = some (.slice (some ⟨g11 + 1 + 1, 0, none⟩) 1 1)))
    (M3 : Hid (∀ wx, Keep w13 wx → Calls Tryd.prog 14 #[.agg #[.int .i64 5, .int .i64 2, .int .i64 2, .int .u64 0, .int .u64 0, .int .i64 0, .int .u64 0, .int .u64 0, .int .u64 0, .slice mc mcn mcc, .slice mp mpn mpc, .slice mr mrn mrc, .int .u64 1, .slice mu mun muc, .slice (some ⟨g11 + 1 + 1, 0, none⟩) 1 1]] wx fun e w' => e = .returned (.bool false) ∧ Keep wx w'))
    (B4 : Hid (∀ wr, Keep w13 wr → (wr.cell? ⟨g12, 0, none⟩ = some (.int .i64 5) ∧ wr.cell? ⟨g12, 1, none⟩ = some (.int .i64 2) ∧ wr.cell? ⟨g12, 2, none⟩ = some (.int .i64 2) ∧ wr.cell? ⟨g12, 3, none⟩ = some (.int .u64 0) ∧ wr.cell? ⟨g12, 4, none⟩ = some (.int .u64 0)) ∧ (wr.cell? ⟨g12, 5, none⟩ = some (.int .i64 0) ∧ wr.cell? ⟨g12, 6, none⟩ = some (.int .u64 0) ∧ wr.cell? ⟨g12, 7, none⟩ = some (.int .u64 0) ∧ wr.cell? ⟨g12, 8, none⟩ = some (.int .u64 0)) ∧ (wr.cell? ⟨g12, 9, none⟩ = some (.slice qc qcn qcc) ∧ wr.cell? ⟨g12, 10, none⟩ = some (.slice qp qpn qpc) ∧ wr.cell? ⟨g12, 11, none⟩ = some (.slice qr qrn qrc)) ∧ wr.cell? ⟨g12, 12, none⟩ = some (.int .u64 1) ∧ wr.cell? ⟨g12, 13, none⟩ = some (.slice qu qun quc) ∧ wr.cell? ⟨g12, 14, none⟩ = some (.slice (some ⟨g12 + 1 + 1, 0, none⟩) 2 2)))
    (M4 : Hid (∀ wx, Keep w13 wx → Calls Tryd.prog 14 #[.agg #[.int .i64 5, .int .i64 2, .int .i64 2, .int .u64 0, .int .u64 0, .int .i64 0, .int .u64 0, .int .u64 0, .int .u64 0, .slice qc qcn qcc, .slice qp qpn qpc, .slice qr qrn qrc, .int .u64 1, .slice qu qun quc, .slice (some ⟨g12 + 1 + 1, 0, none⟩) 2 2]] wx fun e w' => e = .returned (.bool true) ∧ Keep wx w'))
    (s0 s1 s2 s3 s4 s5 s7 s8 s13 s14 s15 s16 s17 s18 s19 s20 s21 s22 s23 s24 s25 s26 s27 s28 s29 s30 s31 s32 s33 s34 s35 s36 s37 s38 s39 s40 s41 s42 s43 s44 s45 s46 s47 s48 s49 s50 s51 s52 s53 s54 s55 s56 s57 s58 s59 s60 s61 s62 s63 s64 s65 s66 s67 s68 s69 s70 s71 s72 s73 s74 s75 s76 s77 s78 s79 s80 s81 s82 s83 s84 s85 s86 s87 s88 s89 s90 s91 s92 s93 s94 s95 s96 s97 s98 s99 s100 s101 s102 s103 s104 s105 s106 s107 s108 s109 s110 s111 s112 s113 : Value) (K : Act → World → Prop) (hK : ∀ a w', Code.wp Tryd.prog lastRest (bodyPost Tryd.prog Tryd.f8 fun e w' => e = .returned (.bool true) ∧ Keep w w') a w' → K a w') :
    Code.wp Tryd.prog lastCode (Exit.then K (bodyPost Tryd.prog Tryd.f8 fun e w' => e = .returned (.bool true) ∧ Keep w w')) { tmps := #[s0, s1, s2, s3, s4, s5, .pointer (some ⟨g6 + 1, 0, none⟩), s7, s8, .pointer (some ⟨g9, 0, none⟩), .pointer (some ⟨g10, 0, none⟩), .pointer (some ⟨g11, 0, none⟩), .pointer (some ⟨g12, 0, none⟩), s13, s14, s15, s16, s17, s18, s19, s20, s21, s22, s23, s24, s25, s26, s27, s28, s29, s30, s31, s32, s33, s34, s35, s36, s37, s38, s39, s40, s41, s42, s43, s44, s45, s46, s47, s48, s49, s50, s51, s52, s53, s54, s55, s56, s57, s58, s59, s60, s61, s62, s63, s64, s65, s66, s67, s68, s69, s70, s71, s72, s73, s74, s75, s76, s77, s78, s79, s80, s81, s82, s83, s84, s85, s86, s87, s88, s89, s90, s91, s92, s93, s94, s95, s96, s97, s98, s99, s100, s101, s102, s103, s104, s105, s106, s107, s108, s109, s110, s111, s112, s113], defers := [] } w13 := by
  have HT := Lib.hid hT
  have KW := Lib.hid kw
  clear hT kw
  conv => arg 2; whnf
  obtain ⟨⟨y0, y1, y2, y3, y4⟩, ⟨y5, y6, y7, y8⟩, ⟨y9, y10, y11⟩, y12, y13, y14⟩ := B0.out w13 (Keep.refl _)
  go_wp2_with fail
  refine (M0.out w13 (Keep.refl _)).mono ?_
  rintro e z1 ⟨rfl, kz⟩
  have Z1 : Hid (Keep w13 z1) := (Keep.refl _).trans kz
  clear kz M0 y0 y1 y2 y3 y4 y5 y6 y7 y8 y9 y10 y11 y12 y13 y14
  obtain ⟨⟨y0, y1, y2, y3, y4⟩, ⟨y5, y6, y7, y8⟩, ⟨y9, y10, y11⟩, y12, y13, y14⟩ := B1.out z1 Z1.out
  go_wp2_with fail
  refine (M1.out z1 Z1.out).mono ?_
  rintro e z2 ⟨rfl, kz⟩
  have Z2 : Hid (Keep w13 z2) := Z1.out.trans kz
  clear kz M1 y0 y1 y2 y3 y4 y5 y6 y7 y8 y9 y10 y11 y12 y13 y14
  obtain ⟨⟨y0, y1, y2, y3, y4⟩, ⟨y5, y6, y7, y8⟩, ⟨y9, y10, y11⟩, y12, y13, y14⟩ := B2.out z2 Z2.out
  go_wp2_with fail
  refine (M2.out z2 Z2.out).mono ?_
  rintro e z3 ⟨rfl, kz⟩
  have Z3 : Hid (Keep w13 z3) := Z2.out.trans kz
  clear kz M2 y0 y1 y2 y3 y4 y5 y6 y7 y8 y9 y10 y11 y12 y13 y14
  obtain ⟨⟨y0, y1, y2, y3, y4⟩, ⟨y5, y6, y7, y8⟩, ⟨y9, y10, y11⟩, y12, y13, y14⟩ := B3.out z3 Z3.out
  go_wp2_with fail
  refine (M3.out z3 Z3.out).mono ?_
  rintro e z4 ⟨rfl, kz⟩
  have Z4 : Hid (Keep w13 z4) := Z3.out.trans kz
  clear kz M3 y0 y1 y2 y3 y4 y5 y6 y7 y8 y9 y10 y11 y12 y13 y14
  obtain ⟨⟨y0, y1, y2, y3, y4⟩, ⟨y5, y6, y7, y8⟩, ⟨y9, y10, y11⟩, y12, y13, y14⟩ := B4.out z4 Z4.out
  go_wp2_with fail
  refine (M4.out z4 Z4.out).mono ?_
  rintro e z5 ⟨rfl, kz⟩
  have Z5 : Hid (Keep w13 z5) := Z4.out.trans kz
  clear kz M4 y0 y1 y2 y3 y4 y5 y6 y7 y8 y9 y10 y11 y12 y13 y14
  go_wp2_with fail
  refine (gawake_any z5 (HT.out.keep Z5.out)).mono ?_
  rintro e z6 ⟨rfl, kz⟩
  have KFIN : Hid (Keep w z6) := (KW.out.trans Z5.out).trans kz
  clear kz
  go_wp2_with fail
  conv => arg 2; whnf
  go_wp2_with fail
  go_ret
  exact ⟨rfl, KFIN.out⟩
end Go.Proofs.YtgkihfemlbhioaaDoor
