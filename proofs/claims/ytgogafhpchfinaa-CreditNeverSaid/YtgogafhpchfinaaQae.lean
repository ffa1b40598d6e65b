/- The walk of CreditWindow. -/
import Derived.Test.YtgogafhpchfinaaQab
import Derived.Test.YtgogafhpchfinaaQac
import Derived.Test.YtgogafhpchfinaaQaa
import Derived.Laws.Bits128
import Derived.StillTailTactics
import Derived.Deep.DeepCutAuto
import Derived.Deep.CutBlock
import Derived.Deep.RegionHeld3
import Derived.Tactics
namespace Go.Proofs.Ytgogafhpchfinaa
open Go.RowKit
set_option linter.unusedVariables false
set_option linter.unusedSimpArgs false
/-- What holds between two steps. -/
structure WinI (most sp sg su rp rg rs : Nat) (ws : List WayC) : Prop where
  a : (sp = 0 ∧ sg = 0) ∨ sp = 1
  b : (rp = 0 ∧ rs = 0) ∨ rp = 1
  c : su ≤ sg
  d : rg ≤ rs + most
  e : sg ≤ rs + most
  f : ∀ p ∈ ws, p.credit = true → p.num ≤ rs + most
section
variable {most sp sg su rp rg rs : Nat} {ws : List WayC}
theorem WinI.data (h : WinI most sp sg su rp rg rs ws) (p : WayC) (hp : p.credit = false) : WinI most sp sg su rp rg rs (ws ++ [p]) :=
  ⟨h.a, h.b, h.c, h.d, h.e, fun q hq hc => by
    rcases List.mem_append.1 hq with hq | hq
    · exact h.f q hq hc
    · simp at hq; subst hq; rw [hp] at hc; cases hc⟩
theorem WinI.use (h : WinI most sp sg su rp rg rs ws) (hlt : su < sg) (p : WayC) (hp : p.credit = false) : WinI most sp sg (su + 1) rp rg rs (ws ++ [p]) :=
  ⟨h.a, h.b, by omega, h.d, h.e, (h.data p hp).f⟩
theorem WinI.grant (h : WinI most sp sg su rp rg rs ws) {q : Nat} (hq : q ≤ most) {g : Nat} (hg : grG most rg rs (q : Int) = g) (p : WayC) (hp : p.num = g) : WinI most sp sg su rp g rs (ws ++ [p]) := by
  have e : grE most (q : Int) = 0 := grE_in hq
  have hle : g ≤ rs + most := by rw [← hg]; unfold grG; rw [e, if_pos rfl]; have := h.d; omega
  refine ⟨h.a, h.b, h.c, hle, h.e, fun x hx hc => ?_⟩
  rcases List.mem_append.1 hx with hx | hx
  · exact h.f x hx hc
  · simp at hx; subst hx; omega
theorem WinI.take (h : WinI most sp sg su rp rg rs ws) {n : Nat} (hn : n ≤ rs + most) {P G : Nat} (hP : takeP 1 sp 1 1 n = P) (hG : takeG 1 sp sg 1 1 n = G) : WinI most P G su rp rg rs ws := by
  have ha := h.a; have hc := h.c; have he := h.e
  by_cases e : takeE 1 sp 1 1 n = 0
  · rw [takeP, e, if_pos rfl] at hP
    subst hP
    by_cases h2 : sp < 1 ∨ sg < n
    · rw [takeG, if_pos ⟨e, h2⟩] at hG
      exact ⟨Or.inr rfl, h.b, by omega, h.d, by omega, h.f⟩
    · rw [takeG, if_neg (fun x => h2 x.2)] at hG
      exact ⟨Or.inr rfl, h.b, by omega, h.d, by omega, h.f⟩
  · rw [takeP, if_neg e] at hP
    rw [takeG, if_neg (fun x => e x.1)] at hG
    subst hP; subst hG
    exact h
theorem WinI.out (h : WinI most sp sg su rp rg rs ws) (k : Nat) : WinI most sp sg su rp rg rs (ws.eraseIdx k) :=
  ⟨h.a, h.b, h.c, h.d, h.e, fun p hp hc => h.f p (List.mem_of_mem_eraseIdx hp) hc⟩
theorem stp_cell {w : World} {g i : Nat} {cs : Array Value} {ty : TypeId} {v : Value} (h : w.heap[g]? = some (.cells cs ty (0, 0))) (hv : cs[i]? = some v) : w.cell? ⟨g, i, none⟩ = some v := by
  unfold World.cell?; rw [h]; exact hv
theorem wpList_run_append {ops : Array Oper} {rest : List Oper} {o : Oper} {a : Act} {Q : Exit → Act → World → Prop} {w w' : World} (hgd : o.guard = none) (s x : Operand) (t : TypeId)
    (ho : o.op = .call { callee := .builtin .append, args := #[s, x], argTypes := #[t, t] }) {sv xv v : Value} (hs : a.eval s = sv) (hx : a.eval x = xv)
    (hr : (Builtin.append_ #[t, t] o.type #[sv, xv]).run Try.prog w = .ok v w') (h : wpList Try.prog ops Q rest (a.put o.dst v) w') : wpList Try.prog ops Q (o :: rest) a w := by
  refine wpList_plain hgd fun _ hK => ?_
  unfold Oper.wp execOp
  simp only [ho, resolve, invoke, builtin, Sem.run_bind, Sem.run_pure, Result.andThen_ok, List.map_toArray, List.map_cons, List.map_nil, hs, hx, hr]
  exact hK _ _ h
/-- ways[:k:k]. -/
theorem run_head_way (n c k : Nat) (A : Option Addr) (hk : k ≤ n) (hc : n ≤ c) (w : World) :
    (Instr.slice 58 (.slice A n c) none (some (.int .i64 (k : Int))) (some (.int .i64 (k : Int)))).run Try.prog w = .ok (.slice A k k) w := by
  obtain ⟨i0, hi0, hz0, hz1, hz2⟩ := info_parts infoWay
  have he : Try.prog.elem 58 = 65 := by kernel_rfl
  rw [run_slice_hm (P := Try.prog) (w := w) 58 A n c (by rw [he]; exact Try.underlying58) .i64 .i64 (k : Int) (k : Int) (by omega) (by omega) (by omega)]
  have ha : A.map (fun x : Addr => x.add 0) = A := by
    cases A with
    | none => rfl
    | some a =>
      obtain ⟨b, off, spot⟩ := a
      simp [Addr.add]
  simp [sizeOf, typeInfo, he, hi0, hz1, sliced]
  exact fun _ => ha
theorem run_tail_way (n c k : Nat) (A : Option Addr) (hk : k < n) {z : Int} (hz : z = ((k + 1 : Nat) : Int)) (w : World) :
    (Instr.slice 58 (.slice A n c) (some (.int .i64 z)) none none).run Try.prog w = .ok (.slice (dropWA A c (k + 1)) (n - (k + 1)) (c - (k + 1))) w := by
  subst hz
  have he : Try.prog.elem 58 = 65 := by kernel_rfl
  exact run_drop_way (by rw [he]; exact Try.underlying58) he n c (k + 1) A (by omega) w
end
end Go.Proofs.Ytgogafhpchfinaa
/- A region that draws its order, walked by hand: what is held may grow on the way. -/
namespace Go.Proofs.Ytgogafhpchfinaa

section
variable {P : Program} {ops : Array Oper} {Q : Exit → Act → World → Prop} {md : Region.Mode} {S S' : World → Prop}
end
end Go.Proofs.Ytgogafhpchfinaa
