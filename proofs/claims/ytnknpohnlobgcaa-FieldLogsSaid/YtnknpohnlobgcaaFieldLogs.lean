/- For any two elements and any two numbers, the law FieldLogs answers true: the exponents of a product add up. -/
import Derived.Test.YtnknpohnlobgcaaRows
import Derived.Test.YtnknpohnlobgcaaLawsE
import Derived.WalkKit
import Derived.ProofKit
import Derived.OpenShut
import Derived.Lib.SmallJoins
namespace Go.Proofs.Ytnknpohnlobgcaa.fieldLogs
open Go.ChangeShapes Go.WideShapes Go.ChangeAt Go.RowKit Go.Joins
set_option linter.unusedVariables false

theorem own : ownKnob Try.prog.godebug = none := by kernel_rfl
theorem cells44 : Try.prog.cellsOf 44 = 4 := by kernel_rfl
theorem u8_nat (a : Int) (h : (Lit.int .u8 a).wf = true) : ∃ n : Nat, a = n ∧ n < 256 := by
  have h2 := bounds_u8 h
  obtain ⟨n, rfl⟩ := Int.eq_ofNat_of_zero_le h2.1
  exact ⟨n, rfl, by omega⟩
theorem u32_nat (a : Int) (h : (Lit.int .u32 a).wf = true) : ∃ n : Nat, a = n ∧ n < 4294967296 := by
  have h2 := bounds_u32 h
  obtain ⟨n, rfl⟩ := Int.eq_ofNat_of_zero_le h2.1
  exact ⟨n, rfl, by omega⟩
theorem walk (a b n m : Int) (wa : (Lit.int .u8 a).wf = true) (wb : (Lit.int .u8 b).wf = true) (wn : (Lit.int .u32 n).wf = true) (wm : (Lit.int .u32 m).wf = true) (w : World) :
    Calls Try.prog 6 #[.agg #[.int .u8 a, .int .u8 b, .int .u32 n, .int .u32 m]] w fun e w' => e = .returned (.bool true) ∧ Grown w w' := by
  obtain ⟨A, rfl, ha⟩ := u8_nat a wa
  obtain ⟨B, rfl, hb⟩ := u8_nat b wb
  obtain ⟨N, rfl, hn⟩ := u32_nat n wn
  obtain ⟨M, rfl, hm⟩ := u32_nat m wm
  exact logs_any A B N M ha hb hn hm w

set_option maxRecDepth 100000 in
theorem lifted (os : Os) (started : os.Started) (H : Type) (enc : TypeId × Value → H) :
    ReturnsInHanded {} Try.checked os 6 .any (Rows.fieldLogsSpec.pre6 enc Try.prog Try.f6 Rows.fieldLogsRow.domain false) (Rows.fieldLogsSpec.post enc Try.prog Try.f6 false true false false) := by
  refine returnsInHanded_of_change (C := Try.checked) own started (by kernel_rfl) Try.func6
    (ChangeSpec.witness6 (enc := enc) (C := Try.checked) false ⟨#[], #[.agg #[.int .u8 0, .int .u8 0, .int .u32 0, .int .u32 0]], []⟩ 8 (by kernel_rfl) (by kernel_rfl) (by kernel_rfl) (by kernel_rfl)) ?_
  intro W base args ds gs before hval0 hW hcnd _
  have hval : ∀ (j : Nat) t v, Try.f6.params[j]? = some t → args[j]? = some v → Value.okWide Try.prog W .any base t v := hval0
  have hW' := hW
  obtain ⟨p, q, hA0, hV, rfl, hfz, hnd⟩ := hW
  have hA : DataW.TrodAll enc Try.prog W 0 (fun _ => true) true Try.f6.params.toList args.toList ds p := hA0
  rw [Try.params6] at hA hval
  obtain ⟨v0, d0, rfl, rfl, h0⟩ := trodAll_one hA
  obtain ⟨rfl, rfl⟩ := trodVars_none hV
  obtain ⟨c0, c1, c2, c3, y0, y1, y2, y3, fu, rfl, rfl, rfl, hy0, hy1, hy2, hy3⟩ := open_agg4 Try.underlying44 (by kernel_rfl) cells44 (hval 0 44 v0 rfl rfl) h0
  obtain ⟨a, e0, rfl, wa⟩ := DataW.trod_int Try.underlying5 hy0
  obtain ⟨b, e1, rfl, wb⟩ := DataW.trod_int Try.underlying5 hy1
  obtain ⟨n, e2, rfl, wn⟩ := DataW.trod_int Try.underlying42 hy2
  obtain ⟨m, e3, rfl, wm⟩ := DataW.trod_int Try.underlying42 hy3
  simp at e0 e1 e2 e3
  subst e0 e1 e2 e3
  clear hA0 hval0
  simp only [List.append_nil] at hW'
  have structReads : ∀ (W' : World) (sp : Nat → Bool), DataW.Trod enc Try.prog W' 0 sp true 44 (.agg #[.int .u8 a, .int .u8 b, .int .u32 n, .int .u32 m]) (.agg [.lit (.int .u8 a), .lit (.int .u8 b), .lit (.int .u32 n), .lit (.int .u32 m)]) [] := fun W' sp =>
    shut_agg4 (y0 := (.lit (.int .u8 a), [])) (y1 := (.lit (.int .u8 b), [])) (y2 := (.lit (.int .u32 n), [])) (y3 := (.lit (.int .u32 m), [])) Try.underlying44 (by kernel_rfl) cells44
      ⟨1, by simp [DataW.trod, Try.underlying5, wa]⟩ ⟨1, by simp [DataW.trod, Try.underlying5, wb]⟩ ⟨1, by simp [DataW.trod, Try.underlying42, wn]⟩ ⟨1, by simp [DataW.trod, Try.underlying42, wm]⟩
  refine (walk a b n m wa wb wn wm W).mono fun e W' ⟨he, hg⟩ => ?_
  subst he
  exact ⟨_, rfl, post_of_same (pa := []) (pv := []) hW' (fun _ _ _ => (trodAll_cons_mk (shut_bool Try.underlying4 _) trodAll_mk0)) (fun sp _ => trodAll_mk1 (structReads _ sp)) (fun _ _ => rfl) rfl
    (hg.frame _) hg.2.1 (ok_one (by kernel_rfl) rfl (okWide_bool_mk Try.underlying4 _))⟩

theorem over : Rows.fieldLogsRow.holds Try.pinned (OpenSpec.ofChange Rows.fieldLogsSpec) :=
  OpenClaim.holds_of_wide 6 Try.f6 rfl rfl rfl rfl rfl rfl rfl ⟨rfl, rfl, rfl, rfl, rfl⟩ rfl rfl rfl rfl rfl (by kernel_rfl) Try.func6 (by kernel_rfl)
    (of_decide_eq_true (by kernel_rfl)) (by unfold Func.isWrapper; first | (rw [if_pos (by decide +kernel)]; kernel_rfl) | (rw [if_neg (by decide +kernel)]; exact ⟨rfl, rfl⟩))
    (fun os started H enc _ => lifted os started H enc)

/-- The statement. -/
theorem proved : Rows.FieldLogsSaid :=
  over
#print axioms proved
end Go.Proofs.Ytnknpohnlobgcaa.fieldLogs
