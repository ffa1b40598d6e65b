/- PadParts: a cut parts a stream for good. -/
import Derived.Test.YtbmfjikkmkmgeaaPf1
import Derived.Deep.RegionHeld3
import Derived.BigQuiet
namespace Go.Proofs.Ytbmfjikkmkmgeaa
open Go.RowKit
set_option linter.unusedVariables false
set_option linter.unusedSimpArgs false
section
variable {P : Program}
/-- Rows behind rows, where the operation is guarded and its guard lets it by. -/
theorem wpList_append_rows_guarded {w : World} {ops : Array Oper} {rest : List Oper} {o : Oper} {a : Act} {Q : Exit → Act → World → Prop} (hw : Region.wanted o (yielded ops a.tmps) = true) (s x : Operand) (t : TypeId)
    (ho : o.op = .call { callee := .builtin .append, args := #[s, x], argTypes := #[t, t] }) {base n c m cx e : Nat} {A B : Option Addr} {rs news : List RowV} (ht : P.underlying t = some (.slice e))
    (hi : (P.info? e).map (fun i => (i.zero, i.size, i.bytes)) = some (some (.slice none 0 0), 1, 24)) (hs : a.eval s = .slice A n c) (hown : OwnRows w base e A n c rs) (hx0 : a.eval x = .slice B m cx) (hl : news.length = m) (hx : 0 < m → ∃ b off, B = some ⟨b, off, none⟩ ∧ ∀ i r, news[i]? = some r → w.cell? ⟨b, off + i, none⟩ = some r.val) (hlen : n + m ≤ 1000000) (hbase : base ≤ w.heap.size)
    (h : ∀ A2 c2 w', OwnRows w' base e A2 (n + m) c2 (rs ++ news) → w.grownBy w' (Value.slice A n c).ownBlock → wpList P ops Q rest (a.put o.dst (.slice A2 (n + m) c2)) w') : wpList P ops Q (o :: rest) a w := by
  refine wpList_step fun K hK => ?_
  rw [if_pos hw]
  exact wp_append_rows s x t ho ht hi hs hown hx0 hl hx hlen hbase fun A2 c2 w' h2 h3 _ => hK _ _ (h A2 c2 w' h2 h3)
end
theorem rowsXs_append (a b : List RowV) : rowsXs (a ++ b) = rowsXs a ++ rowsXs b := by simp [rowsXs]
theorem one_cut (n : Nat) : (∀ x ∈ [n], x ≤ n) ∧ ∀ (i j x y : Nat), i ≤ j → [n][i]? = some x → [n][j]? = some y → x ≤ y :=
  ⟨fun x hx => by rw [List.mem_singleton] at hx; omega, fun i j x y hij hi hj => by
    match i, j, hij, hi, hj with
    | 0, 0, _, hi, hj => rw [hi] at hj; injection hj with hj; omega
    | 0, j + 1, _, hi, hj => simp at hj
    | i + 1, _, _, hi, _ => simp at hi⟩
theorem no_cut (n : Nat) : (∀ x ∈ ([] : List Nat), x ≤ n) ∧ ∀ (i j x y : Nat), i ≤ j → ([] : List Nat)[i]? = some x → ([] : List Nat)[j]? = some y → x ≤ y :=
  ⟨fun x hx => by simp at hx, fun i j x y _ hi _ => by simp at hi⟩
theorem IntsAt.nil (w : World) (B : Nat) (A : Option Addr) : IntsAt w B A 0 [] := ⟨rfl, fun h => absurd h (by omega)⟩
set_option maxRecDepth 100000 in
set_option maxHeartbeats 8000000 in
theorem padparts_any (g0 s0 : Int) (n0 c0 n1 c1 : Nat) (A0 A1 : Option Addr) (xs ys : List Nat) (W : World) (b0 : Bytes W W.heap.size A0 n0 xs) (b1 : Bytes W W.heap.size A1 n1 ys) (l0 : n0 ≤ 140737488351232) (q0 : n0 ≤ c0) (l1 : n1 ≤ 140737488351232) (q1 : n1 ≤ c1) :
    Calls Try.prog 7 #[.int .i64 g0, .int .i64 s0, .agg #[.slice A0 n0 c0, .slice A1 n1 c1]] W fun e w' => e = .returned (.bool true) ∧ Keep W w' := by
  obtain ⟨n, hn⟩ : ∃ n, min n0 1000 = n := ⟨_, rfl⟩
  obtain ⟨m, hm⟩ : ∃ m, min n1 1000 = m := ⟨_, rfl⟩
  have hmin0 := run_least n0 1000 n 1000 rfl hn
  have hmin1 := run_least n1 1000 m 1000 rfl hm
  have hhead0 := head_bytes n n0 c0 A0 (by omega)
  have hhead1 := head_bytes m n1 c1 A1 (by omega)
  have hnb : n ≤ 1000 := by omega
  have hmb : m ≤ 1000 := by omega
  have hnc : n ≤ c0 := by omega
  have hmc : m ≤ c1 := by omega
  obtain ⟨g, hg⟩ : ∃ g, sizeV 255 g0 = g := ⟨_, rfl⟩
  obtain ⟨s, hs⟩ : ∃ s, sizeV 65535 s0 = s := ⟨_, rfl⟩
  have HS0 : ∀ w, Calls Try.prog 9 #[.int .i64 g0, .int .i64 s0] w fun e w' => e = .returned (.tuple #[.int .i64 g, .int .i64 s]) ∧ w = w' := fun w => by rw [← hg, ← hs]; exact sizes_any g0 s0 w
  have HSZ := Lib.hid HS0
  clear HS0
  obtain ⟨gX, hgX⟩ : ∃ gX, W.heap.size = gX := ⟨_, rfl⟩
  obtain ⟨w0, hw0⟩ : ∃ w0, W.alloc (.cells #[.slice A0 n0 c0, .slice A1 n1 c1] 57) = w0 := ⟨_, rfl⟩
  have p0 : Pair2 w0 gX (.slice A0 n0 c0) (.slice A1 n1 c1) 57 := by rw [← hw0, ← hgX]; exact Pair2.new W _ _ _
  have K0 : Hid (Keep W w0) := by show Keep _ _; rw [← hw0]; exact (Keep.refl W).ob _
  have x0 := p0.cell0
  have x1 := p0.cell1
  have B0 := Lib.hid (b0.cut (m := n) (by omega))
  have B1 := Lib.hid (b1.cut (m := m) (by omega))
  obtain ⟨xa, hxa⟩ : ∃ xa, xs.take n = xa := ⟨_, rfl⟩
  obtain ⟨ya, hya⟩ : ∃ ya, ys.take m = ya := ⟨_, rfl⟩
  rw [hxa] at B0
  rw [hya] at B1
  have HXL : Hid (xa.length = n) := B0.out.length
  have HYL : Hid (ya.length = m) := B1.out.length
  clear p0 b0 b1 hg hs hn hm hxa hya
  go_enter Try.func7, Try.ntmps7
  go_wp2_with fail
  refine (HSZ.out _).mono ?_
  rintro e w1 ⟨rfl, rfl⟩
  go_wp2_with fail
  go_quiet (fail)
  have K1 : Hid (Keep W (w0.drewN nq)) := K0.out.drewN nq
  generalize w0.drewN nq = w1 at *
  clear x0 x1 hmin0 hmin1 hhead0 hhead1 K0
  by_cases hM : MayG g s
  · obtain ⟨G, S, P, rfl, rfl, a1, a2, a3, a4, a5, a6, a7, a8⟩ := hM.nat
    have hroom : 1 ≤ P - 4 := by omega
    have HR := Lib.hid (fun w => proom_in G S P a1 a2 a3 a4 a8 a6 a7 w)
    have HP1 := Lib.hid (chunk_parts (room := P - 4) hroom xa ya m (by rw [HYL.out]; exact Nat.le_refl _))
    have HC1 : Hid ((chunkN (P - 4) [n] xa (n + 1)).1.length ≤ n + 1) := chunk_count _
    have HC2 : Hid ((chunkN (P - 4) [] ya (m + 1)).1.length ≤ m + 1) := chunk_count _
    obtain ⟨M1, hM1⟩ : ∃ M1, (chunkN (P - 4) [n] xa (n + 1)).1 = M1 := ⟨_, rfl⟩
    obtain ⟨M2, hM2⟩ : ∃ M2, (chunkN (P - 4) [] ya (m + 1)).1 = M2 := ⟨_, rfl⟩
    obtain ⟨f2, hf2⟩ : ∃ f2, (chunkN (P - 4) [] ya (m + 1)).2 = f2 := ⟨_, rfl⟩
    have HZ : Hid ((chunkN (P - 4) [n] (xa ++ ya) (n + m + 1)).1 = M1 ++ M2 ∧ (xa ++ ya).drop (chunkN (P - 4) [n] (xa ++ ya) (n + m + 1)).2 = ya.drop f2) := by
      have h1 := HP1.out
      rw [HXL.out] at h1
      have e : n + m + 1 = n + 1 + m := by omega
      rw [e, h1, hM1, hM2, hf2]
      exact ⟨rfl, by rw [← List.drop_drop, List.drop_left' HXL.out]⟩
    rw [hM1] at HC1
    rw [hM2] at HC2
    clear hM
    go_wp2_with fail
    have h1 := pchunks_in G S P n 1 a1 a2 a3 a4 a8 a6 a7 (by omega) (by omega) A0 (some ⟨w1.heap.size, 0, none⟩) c0 1 xa [n] (w1.alloc (.cells #[.int .i64 (n : Int)] 3)) ((B0.out.up K1.out).up ((Keep.refl w1).ob _)) hnc (IntsAt.wri rfl _ 1 [(n : Int)] _ rfl rfl) (one_cut n).1 (one_cut n).2
    rw [hM1] at h1
    refine h1.mono ?_
    rintro e w2 ⟨Aa, na, ca, Ao, no, co, ra, rfl, hLa, hxa, _, k2⟩
    have K2 : Hid (Keep W w2) := (K1.out.ob _).trans k2
    have LA := Lib.hid hLa
    have XA := Lib.hid hxa
    have hna : na ≤ 1001 := by have := hLa.count hxa; have := HC1.out; omega
    clear hLa hxa k2 h1 hM1
    go_wp2_with fail
    have h2 := pchunks_in G S P m 0 a1 a2 a3 a4 a8 a6 a7 (by omega) (by omega) A1 none c1 0 ya [] w2 (B1.out.up K2.out) hmc (IntsAt.nil _ _ _) (no_cut m).1 (no_cut m).2
    rw [hM2, hf2] at h2
    refine h2.mono ?_
    rintro e w3 ⟨Ab, nb, cb, Ap, np, cp, rb, rfl, hLb, hxb, hOb, k3⟩
    have K3 : Hid (Keep W w3) := K2.out.trans k3
    have LA3 := Lib.hid (LA.out.later k3)
    have LB := Lib.hid hLb
    have XB := Lib.hid hxb
    have OB := Lib.hid hOb
    have hnb2 : nb ≤ 1001 := by have := hLb.count hxb; have := HC2.out; omega
    have HW2 : Hid (∀ b, (Value.slice Aa na ca).ownBlock = some b → b < w2.heap.size) := fun b hb => (LA.out.1.lt b hb).2
    have KS23 := Lib.hid k3.size
    clear hLb hxb hOb k3 h2 hM2 hf2 LA
    have D0 := Lib.hid ((B0.out.up K3.out).keep (Nat.le_refl _) ((Keep.refl w3).ob (.cells #[] 5)))
    go_wp2_with (at_builtin; refine wpList_append_bytes rfl _ _ 22 rfl Try.underlying22 info5 rfl (Own.lit w3 5 0 [] _ rfl rfl (by omega) (by decide)) rfl D0.out ?c1 (by simp) ?_)
    case c1 => omega
    intro A4 c4 w4 o4 gr4 _
    have k34 : Keep w3 w4 := Keep.grown ((Keep.refl w3).ob _) gr4 fun b hb => by
      have hb : some w3.heap.size = some b := hb
      injection hb with hb; omega
    have D1 := Lib.hid (B1.out.up (K3.out.trans k34))
    have o4 : Own w4 w3.heap.size 5 A4 n c4 xa := by simpa using o4
    go_wp2_with (at_builtin; refine wpList_append_bytes rfl _ _ 22 rfl Try.underlying22 info5 rfl o4 rfl D1.out ?c2 k34.size ?_)
    case c2 => omega
    intro A5 c5 w5 o5 gr5 _
    have k35 : Keep w3 w5 := k34.grown gr5 fun b hb => o4.rowLe b hb
    have K5 : Hid (Keep W w5) := K3.out.trans k35
    have O5 := Lib.hid o5
    have LA5 := Lib.hid (LA3.out.later k35)
    have LB5 := Lib.hid (LB.out.later k35)
    have OB5 := Lib.hid (OB.out.turned (Turned.of_keep (F := fun _ => False) k35) fun _ _ e => e)
    have KS35 := Lib.hid k35.size
    clear o4 o5 gr4 gr5 k34 k35 D0 D1 LA3 LB OB
    go_wp2_with fail
    have e1 : ((n + m : Nat) : Int) = (n : Int) + (m : Int) := by omega
    have h3 := pchunks_in G S P (n + m) 1 a1 a2 a3 a4 a8 a6 a7 (by omega) (by omega) A5 (some ⟨w5.heap.size, 0, none⟩) c5 1 (xa ++ ya) [n] (w5.alloc (.cells #[.int .i64 (n : Int)] 3)) (O5.out.bytes.up ((Keep.refl w5).ob _)) (own_le O5.out) (IntsAt.wri rfl _ 1 [(n : Int)] _ rfl rfl) (fun x hx => by have := (one_cut n).1 x hx; omega) (one_cut n).2
    rw [HZ.out.1, HZ.out.2] at h3
    refine h3.mono ?_
    rintro e w6 ⟨Ac, nc, cc, Aq, nq2, cq, rc, rfl, hLc, hxc, hOc, k6⟩
    have k56 : Keep w5 w6 := ((Keep.refl w5).ob _).trans k6
    have K6 : Hid (Keep W w6) := K5.out.trans k56
    have LA6 := Lib.hid (LA5.out.later k56)
    have LB6 := Lib.hid (LB5.out.later k56)
    have OB6 := Lib.hid (OB5.out.turned (Turned.of_keep (F := fun _ => False) k56) fun _ _ e => e)
    have RC := Lib.hid hLc.rowsIn
    have XC := Lib.hid hxc
    have OC := Lib.hid hOc
    have KS66 : Hid (w5.heap.size ≤ w6.heap.size) := k56.size
    have KS56 : Hid (w5.heap.size ≤ (w5.alloc (.cells #[.int .i64 (n : Int)] 3)).heap.size) := by show _ ≤ _; simp
    have hnc3 : nc ≤ 3000 := by
      have := hLc.count hxc
      rw [List.length_append] at this
      have := HC1.out; have := HC2.out; omega
    clear hLc hxc hOc k6 k56 h3 LA5 LB5 OB5
    go_wp2_with fail
    refine (HR.out w6).mono ?_
    rintro e w7 ⟨rfl, rfl⟩
    go_wp2_with fail
    refine (awake_any w6).mono ?_
    rintro e w7 ⟨rfl, k7⟩
    have K7 : Hid (Keep W w7) := K6.out.trans k7
    have LA7 := Lib.hid (LA6.out.later k7)
    have LB7 := Lib.hid (LB6.out.later k7)
    have OB7 := Lib.hid (OB6.out.turned (Turned.of_keep (F := fun _ => False) k7) fun _ _ e => e)
    have RC7 := Lib.hid (RC.out.turned (Turned.of_keep (F := fun _ => False) k7) fun _ _ e => e)
    have OC7 := Lib.hid (OC.out.turned (Turned.of_keep (F := fun _ => False) k7) fun _ _ e => e)
    have KS67 : Hid (w6.heap.size ≤ w7.heap.size) := k7.size
    have hrb : rb.length = nb := LB7.out.1.length
    have hxb : 0 < nb → ∃ b off, Ab = some ⟨b, off, none⟩ ∧ ∀ i r, rb[i]? = some r → w7.cell? ⟨b, off + i, none⟩ = some r.val := fun hp => by
      obtain ⟨b, off, e, _, hc⟩ := LB7.out.rowsIn.2.2 hp
      exact ⟨b, off, e, hc⟩
    clear k7 LA6 LB6 OB6 RC OC
    go_wp2_with (at_builtin; refine wpList_append_rows_guarded rfl _ _ 23 rfl Try.underlying23 infoRow rfl LA7.out.1 rfl hrb hxb ?c3 LA7.out.2.2.size ?_)
    case c3 => omega
    intro A8 c8 w8 o8 gr8
    have hlow : ∀ b, (Value.slice Aa na ca).ownBlock = some b → b < w2.heap.size := HW2.out
    have t8 : Turned (fun b => (Value.slice Aa na ca).ownBlock = some b) w7 w8 := Turned.of_grown (F := fun b => (Value.slice Aa na ca).ownBlock = some b) gr8 fun i e => e
    have k8 : Keep W w8 := t8.keep K7.out fun b hb => by
      have h1 := LA7.out.1.rowLe b hb
      have h2 := K1.out.size
      simp at h1; omega
    have hR8 : RowsIn w8 (fun b => b < w8.heap.size) A8 (na + nb) (ra ++ rb) := by
      refine RowsIn.of_own o8 (fun r hr => ?_) fun b hb => (o8.lt b hb).2
      rcases List.mem_append.1 hr with hr | hr
      · exact ((LA7.out.2.1 r hr).turned t8 fun b hb e => hb.2.2 e).mono fun b hb => Nat.lt_of_lt_of_le hb.2.1 t8.size
      · exact ((LB7.out.2.1 r hr).turned t8 fun b hb e => by have := hlow b e; have := hb.1; omega).mono fun b hb => Nat.lt_of_lt_of_le hb.2.1 t8.size
    have hC8 : RowsIn w8 (fun b => b < w8.heap.size) Ac nc rc := (RC7.out.turned t8 fun b hb e => by
      have h1 := hlow b e; have h2 := hb.1; have h3 := KS23.out; have h4 := KS35.out; have h5 := KS56.out; omega).mono fun b hb => Nat.lt_of_lt_of_le (Nat.lt_of_lt_of_le hb.2 KS67.out) t8.size
    have hOB8 : LiesIn w8 (fun b => b < w8.heap.size) ⟨Ap, np, cp, ya.drop f2⟩ := (OB7.out.turned t8 fun b hb e => by have h1 := hlow b e; have h2 := hb.1; omega).mono fun b hb => by
      have h2 := hb.2; have h3 := KS35.out; have h4 := KS56.out; have h5 := t8.size; have h6 := KS67.out; have h7 := KS66.out; omega
    have hOC8 : LiesIn w8 (fun b => b < w8.heap.size) ⟨Aq, nq2, cq, ya.drop f2⟩ := (OC7.out.turned t8 fun b hb e => by
      have h1 := hlow b e; have h2 := hb.1; have h3 := KS23.out; have h4 := KS35.out; have h5 := KS56.out; omega).mono fun b hb => Nat.lt_of_lt_of_le (Nat.lt_of_lt_of_le hb.2 KS67.out) t8.size
    have hS := rsame_any (na + nb) nc c8 cc A8 Ac _ _ (ra ++ rb) rc w8 hR8 hC8 (fun _ e => e) (fun _ e => e) (by omega)
    rw [rowsXs_append, XA.out, XB.out, XC.out, decide_eq_true rfl] at hS
    have HS := Lib.hid hS
    have OB8 := Lib.hid (hOB8.bytes fun _ e => e)
    have OC8 := Lib.hid (hOC8.bytes fun _ e => e)
    have K8 := Lib.hid k8
    clear o8 gr8 t8 k8 hR8 hC8 hlow hrb hxb hOB8 hOC8 hS LA7 LB7 RC7
    go_wp2_with fail
    refine HS.out.mono ?_
    rintro e w9 ⟨rfl, q9, rfl⟩
    have HE := Lib.hid (equal_any _ _ np nq2 cp cq Ap Aq (ya.drop f2) (ya.drop f2) (w8.drewN q9) (OB8.out.up ((Keep.refl w8).drewN q9)) (OC8.out.up ((Keep.refl w8).drewN q9)))
    rw [decide_eq_true rfl] at HE
    have K9 := Lib.hid (K8.out.drewN q9)
    go_wp2_with fail
    refine HE.out.mono ?_
    rintro e w10 ⟨rfl, rfl⟩
    go_wp2_with fail
    go_ret
    exact ⟨rfl, K9.out⟩
  · have HR := Lib.hid (fun w => proom_out g s hM w)
    go_wp2_with fail
    refine (pchunks_out g s hM _ _ _ _ _ _ _).mono ?_
    rintro e w2 ⟨Aa, na, ca, Ao, no, co, ra, rfl, _, _, _, k2⟩
    have K2 : Hid (Keep W w2) := (K1.out.ob _).trans k2
    clear k2
    go_wp2_with fail
    refine (pchunks_out g s hM _ _ _ _ _ _ _).mono ?_
    rintro e w3 ⟨Ab, nb, cb, Ap, np, cp, rb, rfl, _, _, _, k3⟩
    have K3 : Hid (Keep W w3) := K2.out.trans k3
    clear k3
    have D0 := Lib.hid ((B0.out.up K3.out).keep (Nat.le_refl _) ((Keep.refl w3).ob (.cells #[] 5)))
    go_wp2_with (at_builtin; refine wpList_append_bytes rfl _ _ 22 rfl Try.underlying22 info5 rfl (Own.lit w3 5 0 [] _ rfl rfl (by omega) (by decide)) rfl D0.out ?c4 (by simp) ?_)
    case c4 => omega
    intro A4 c4 w4 o4 gr4 _
    have k34 : Keep w3 w4 := Keep.grown ((Keep.refl w3).ob _) gr4 fun b hb => by
      have hb : some w3.heap.size = some b := hb
      injection hb with hb; omega
    have D1 := Lib.hid (B1.out.up (K3.out.trans k34))
    have o4 : Own w4 w3.heap.size 5 A4 n c4 xa := by simpa using o4
    go_wp2_with (at_builtin; refine wpList_append_bytes rfl _ _ 22 rfl Try.underlying22 info5 rfl o4 rfl D1.out ?c5 k34.size ?_)
    case c5 => omega
    intro A5 c5 w5 o5 gr5 _
    have k35 : Keep w3 w5 := k34.grown gr5 fun b hb => o4.rowLe b hb
    have K5 : Hid (Keep W w5) := K3.out.trans k35
    clear o4 o5 gr4 gr5 k34 k35 D0 D1
    go_wp2_with fail
    refine (pchunks_out g s hM _ _ _ _ _ _ _).mono ?_
    rintro e w6 ⟨Ac, nc, cc, Aq, nq2, cq, rc, rfl, _, _, _, k6⟩
    have K6 : Hid (Keep W w6) := (K5.out.ob _).trans k6
    clear k6
    go_wp2_with fail
    refine (HR.out w6).mono ?_
    rintro e w7 ⟨rfl, rfl⟩
    go_wp2_with fail
    refine (awake_any w6).mono ?_
    rintro e w7 ⟨rfl, k7⟩
    have K7 := Lib.hid (K6.out.trans k7)
    clear k7
    go_wp2_with fail
    go_ret
    exact ⟨rfl, K7.out⟩
end Go.Proofs.Ytbmfjikkmkmgeaa
