/- For any slice of things and any number of 16 bits, where what is read is of bulk at most 1048576, the law WireBack answers true: what was laid, one behind the other, is read as it was; of a beginning the same up to the first want. -/
import Derived.Test.YtpmildbgmmiaeaaRows
import Derived.Test.YtpmildbgmmiaeaaFrameU
import Derived.Test.YtpmildbgmmiaeaaStructs2
import Derived.Test.YtpmildbgmmiaeaaBack
import Derived.ProofKit
namespace Go.Proofs.Ytpmildbgmmiaeaa.wireBack
open Go.ChangeShapes Go.WideShapes Go.ChangeAt Go.RowKit Go.Deep
set_option linter.unusedVariables false

theorem own : ownKnob Try.prog.godebug = none := by kernel_rfl
theorem laidOut : laidOutB Try.prog = true := by kernel_rfl
theorem cells5 : Try.prog.cellsOf 5 = 1 := by kernel_rfl
theorem bytes5 : Try.prog.bytesOf 5 = 1 := by kernel_rfl
section
variable {H : Type} {enc : TypeId × Value → H} {W : World}
/-- A row of a thing's fields, with its data. -/
theorem thing_of {r : List Value} {parts : List (DataW H)} {fs : Array Field} {f0 f1 f2 : Field} (h0 : fs[0]? = some f0) (h1 : fs[1]? = some f1) (h2 : fs[2]? = some f2) (t0 : f0.type = 5) (t1 : f1.type = 23) (t2 : f2.type = 22) (hl : r.length = 3) (h : PartsOf enc Try.prog W fs r parts) :
    ∃ x : ThingV, r = x.vals ∧ ThingV.Ok W W.heap.size x ∧ x.r.n ≤ 140737488351232 ∧ x.r.xs.length ≤ Rows.uptoBulkAll parts := by
  obtain ⟨u0, d0, p0, m0, a0, b0, c0, _⟩ := h 0 f0 h0
  obtain ⟨u1, d1, p1, m1, a1, b1, c1, _⟩ := h 1 f1 h1
  obtain ⟨u2, d2, p2, m2, a2, b2, c2, w2⟩ := h 2 f2 h2
  rw [t0] at c0
  rw [t1] at c1
  rw [t2] at c2 w2
  obtain ⟨z0, q0, _, v0⟩ := DataW.trod_int Try.underlying5 c0
  obtain ⟨z1, q1, _, v1⟩ := DataW.trod_int Try.underlying23 c1
  obtain ⟨A, n, c, xs, q2, hb, hn, hc, hd⟩ := bytes_data Try.underlying22 Try.underlying5 cells5 bytes5 c2 w2
  simp at q0 q1
  subst q0 q1 q2
  have e0 := bounds_u8 v0
  have e1 := bounds_u64 v1
  obtain ⟨a, rfl⟩ := Int.eq_ofNat_of_zero_le e0.1
  obtain ⟨b, rfl⟩ := Int.eq_ofNat_of_zero_le e1.1
  refine ⟨⟨a, b, ⟨A, n, c, xs⟩⟩, ?_, ⟨by show a < 256; omega, by show b < _; omega, hb⟩, hn, ?_⟩
  · match r, hl with
    | [x, y, z], _ =>
      simp at a0 a1 a2
      rw [a0, a1, a2]
      rfl
  · show xs.length ≤ _
    rw [hb.1]
    rcases hd with rfl | ⟨es, sp, rfl, hes⟩
    · omega
    · have h3 := bulk_mem (List.mem_of_getElem? b2)
      have h4 := bulk_slice es sp
      have h5 := bulk_length es
      omega
/-- The argument that is a slice of things, its bulk bounded. -/
theorem things_of {v : Value} {d : DataW H} {p : List MemPlace} {fuel : Nat} (h : DataW.trod enc Try.prog W 0 (fun _ => true) true fuel 50 [v] = some (d, p)) (hs : ∀ n ∈ d.weights Try.prog 50, n ≤ reachBytes) :
    ∃ (A : Option Addr) (n c : Nat) (l : List ThingV), v = .slice A n c ∧ ThingsAt W W.heap.size A n l ∧ n ≤ 140737488351232 ∧ n ≤ c ∧ (l.map fun x => x.r.xs.length).sum ≤ Rows.uptoBulk d := by
  obtain ⟨A, n, c, rows, e, hf, hn, hc, hd⟩ := structs_data Try.underlying50 Try.underlying53 (by kernel_rfl) (by kernel_rfl) (by decide) (of_decide_eq_true (by kernel_rfl)) h hs
  rcases hd with ⟨rfl, rfl⟩ | ⟨es, sp, rfl, hes, hr⟩
  · exact ⟨A, 0, c, [], e, ⟨by simpa using hf, fun x hx => by simp at hx⟩, hn, hc, by simp⟩
  · have each : ∀ i, i < n → ∃ x : ThingV, rows[i]? = some x.vals ∧ ThingV.Ok W W.heap.size x ∧ ∀ d, es[i]? = some d → x.r.xs.length ≤ Rows.uptoBulk d := by
      intro i hi
      have hl : i < rows.length := by rw [hf.1]; exact hi
      have hri := List.getElem?_eq_getElem hl
      obtain ⟨parts, h1, h2⟩ := hr i _ hri
      obtain ⟨x, h3, h4, _, h6⟩ := thing_of (f0 := _) (f1 := _) (f2 := _) rfl rfl rfl rfl rfl rfl (hf.2.1 _ (List.getElem_mem hl)) h2
      refine ⟨x, by rw [hri, h3], h4, fun d hd => ?_⟩
      rw [h1] at hd
      obtain rfl := Option.some.inj hd
      simp only [Rows.uptoBulk]
      omega
    have : Inhabited ThingV := ⟨⟨0, 0, ⟨none, 0, 0, []⟩⟩⟩
    obtain ⟨X, hX⟩ := choose_lt each
    have hrows : rows = ((List.range n).map X).map ThingV.vals := by
      apply List.ext_getElem?
      intro i
      rcases Nat.lt_or_ge i n with hi | hi
      · rw [(hX i hi).1]; simp [hi]
      · rw [List.getElem?_eq_none (by rw [hf.1]; exact hi), List.getElem?_eq_none (by simpa using hi)]
    refine ⟨A, n, c, (List.range n).map X, e, ⟨by rw [← hrows]; exact hf, fun x hx => ?_⟩, hn, hc, ?_⟩
    · obtain ⟨i, hi, rfl⟩ := List.mem_map.1 hx
      exact (hX i (List.mem_range.1 hi)).2.1
    · refine Nat.le_trans (bulk_sum (fun x : ThingV => x.r.xs.length) _ es (by simp [hes]) fun i x d hx hd => ?_) (Nat.le_of_succ_le (bulk_slice es sp))
      have hi : i < n := by
        rcases Nat.lt_or_ge i n with hi | hi
        · exact hi
        · rw [List.getElem?_eq_none (by simpa using hi)] at hx; cases hx
      have hxi : x = X i := by simp [hi] at hx; exact hx.symm
      subst hxi
      exact (hX i hi).2.2 d hd
end
theorem forms_small (l : List ThingV) (h : (l.map fun x => x.r.xs.length).sum ≤ 1048577) (h60 : l.length ≤ 60) : (formsN l).length ≤ 4000000 := by
  have key : ∀ l : List ThingV, (formsN l).length ≤ (l.map fun x => x.r.xs.length).sum + 9 * l.length := by
    intro l
    induction l with
    | nil => simp [formsN]
    | cons x l ih =>
      have hf : x.form.length ≤ x.r.xs.length + 9 := by
        rw [ThingV.form]
        split
        · omega
        · rw [formN_length]; have := x.sz_lt; omega
      have e : formsN (x :: l) = x.form ++ formsN l := by simp [formsN]
      rw [e, List.length_append, List.map_cons, List.sum_cons, List.length_cons]
      omega
  have := key l
  omega
theorem sum_take (l : List ThingV) (k : Nat) : ((l.take k).map fun x => x.r.xs.length).sum ≤ (l.map fun x => x.r.xs.length).sum := by
  have e : l = l.take k ++ l.drop k := (List.take_append_drop k l).symm
  conv => rhs; rw [e, List.map_append, List.sum_append]
  omega
set_option maxRecDepth 100000 in
theorem lifted (os : Os) (started : os.Started) (H : Type) (enc : TypeId × Value → H) (F : Stop.Interp) :
    ReturnsInHanded {} Try.checked os 5 .any ((Rows.OpenSpec.upto Rows.wireBackSpec).pre6 enc Try.prog Try.f5 Rows.wireBackUptoRow.domain false) (((Rows.OpenSpec.upto Rows.wireBackSpec).at F).post enc Try.prog Try.f5 false true false false) := by
  refine law_handed_upto (C := Try.checked) (s := Rows.OpenSpec.upto Rows.wireBackSpec) (sc := Rows.wireBackSpec) (k := Rows.uptoSmall) rfl rfl own started (by kernel_rfl) Try.func5
    (OpenSpec.witness (enc := enc) (C := Try.checked) (s := Rows.OpenSpec.upto Rows.wireBackSpec) (k := Rows.uptoSmall) rfl false ⟨#[], #[.slice none 0 0, .int .u16 0], []⟩ 8 (by kernel_rfl) (by kernel_rfl) (by kernel_rfl)
      (x := ([.nil, .lit (.int .u16 0)], [], [])) (by kernel_rfl) rfl (by kernel_rfl))
    laidOut ?_ (tb := 4) (by kernel_rfl) Try.underlying4 rfl rfl rfl ?_ ?_
  · intro t ht
    rw [Try.params5] at ht
    simp only [List.mem_cons, List.not_mem_nil, or_false] at ht
    rcases ht with rfl | rfl <;> exact ⟨by kernel_rfl, of_decide_eq_true (by kernel_rfl)⟩
  · intro ds hlen
    match ds, hlen with
    | [_, _], _ => rfl
  · intro W base args ds p hval hA hsz hk
    rw [Try.params5] at hA hval hsz
    obtain ⟨v0, vs0, d0, ds0, p0, q0, hargs, rfl, rfl, h0, r0⟩ := trodAll_cons hA
    obtain ⟨v1, vs1, d1, ds1, p1, q1, rfl, rfl, rfl, h1, r1⟩ := trodAll_cons r0
    obtain ⟨rfl, rfl, rfl⟩ := trodAll_nil r1
    obtain rfl : args = #[v0, v1] := by cases args; simp_all
    have hb := bulk_bound hk
    obtain ⟨A0, n0, c0, rfl⟩ := okWide_slice Try.underlying50 (hval 0 50 v0 rfl rfl)
    obtain ⟨fuel, hf⟩ := h0
    have hf' : DataW.trod enc Try.prog W 0 (fun _ => true) true fuel 50 [.slice A0 n0 c0] = some (d0, p0) := by
      have h2 := hf
      simp only [Value.cells] at h2
      exact h2
    obtain ⟨A, n, c, l, e, hT, hn, hc, hsum⟩ := things_of hf' fun n hn => by
      have h2 := List.all_eq_true.1 hsz n (DataW.weights_mem_each (ts := [50, 51]) (ds := [d0, d1]) (j := 0) (t := 50) rfl rfl n hn)
      simpa using h2
    rw [e]
    obtain ⟨a1, rfl, rfl, rfl, w1⟩ := open_int Try.underlying51 (hval 1 51 v1 rfl rfl) h1
    have e1 : 0 ≤ a1 ∧ a1 ≤ 65535 := by simpa [Lit.wf, IntKind.min, IntKind.max, IntKind.signed, IntKind.bits] using w1
    obtain ⟨y, rfl⟩ := Int.eq_ofNat_of_zero_le e1.1
    simp only [Rows.uptoBulkAll] at hb
    exact back_any n c y A l W hT hn hc (by omega) (forms_small _ (Nat.le_trans (sum_take l 60) (by omega)) (by rw [List.length_take]; omega))

theorem over : Rows.wireBackUptoRow.holds Try.pinned (Rows.OpenSpec.upto Rows.wireBackSpec) :=
  OpenClaim.holds_of_cond 5 Try.f5 rfl rfl rfl rfl rfl rfl rfl ⟨rfl, rfl, rfl, rfl, rfl⟩ rfl rfl rfl rfl rfl (by kernel_rfl) Try.func5 (by kernel_rfl)
    (of_decide_eq_true (by kernel_rfl)) (by unfold Func.isWrapper; first | (rw [if_pos (by decide +kernel)]; kernel_rfl) | (rw [if_neg (by decide +kernel)]; exact ⟨rfl, rfl⟩))
    (fun os started H enc _ F => lifted os started H enc F)

/-- The statement. -/
theorem proved : Rows.WireBackUptoSaid :=
  over
#print axioms proved
end Go.Proofs.Ytpmildbgmmiaeaa.wireBack
