/- bytes.Equal, bytes.Compare. -/
import Derived.Test.YtpmildbgmmiaeaaNew
import Derived.Test.YtpmildbgmmiaeaaForm
import Derived.Lib.Bytealg
import Derived.Laws.Externs
namespace Go.Proofs.Ytpmildbgmmiaeaa
open Go.RowKit
theorem equal_any (B B' n m ca cb : Nat) (A A' : Option Addr) (xs ys : List Nat) (w : World) (h : Bytes w B A n xs) (h' : Bytes w B' A' m ys) :
    Calls Try.prog 12 #[.slice A n ca, .slice A' m cb] w fun e w' => e = .returned (.bool (decide (xs = ys))) ∧ w = w' := by
  have t1 := run_str h Try.underlying22 Try.underlying5 Try.underlying9 ca
  have t2 := run_str h' Try.underlying22 Try.underlying5 Try.underlying9 cb
  by_cases e : xs = ys
  · have b := strN_eq e
    rw [decide_eq_true e]
    go_enter Try.func12, Try.ntmps12
    go_wp2_with fail
    go_ret
    exact ⟨rfl, rfl⟩
  · have b := strN_ne h.all h'.all e
    rw [decide_eq_false e]
    go_enter Try.func12, Try.ntmps12
    go_wp2_with fail
    go_ret
    exact ⟨rfl, rfl⟩
/-- What a comparison tells. -/
def cmpN : List Nat → List Nat → Int
  | [], [] => 0
  | [], _ :: _ => -1
  | _ :: _, [] => 1
  | a :: l, b :: m => if a < b then -1 else if b < a then 1 else cmpN l m
theorem cmpN_eq : ∀ (xs ys : List Nat), AllB xs → AllB ys → Lib.compareBytes (xs.map UInt8.ofNat) (ys.map UInt8.ofNat) = cmpN xs ys
  | [], [], _, _ => rfl
  | [], _ :: _, _, _ => rfl
  | _ :: _, [], _, _ => rfl
  | a :: l, b :: m, h, h' => by
    have ha := h a (by simp)
    have hb := h' b (by simp)
    have ih := cmpN_eq l m (fun x hx => h x (by simp [hx])) (fun x hx => h' x (by simp [hx]))
    have e1 : (UInt8.ofNat a < UInt8.ofNat b) ↔ a < b := by
      rw [UInt8.lt_iff_toNat_lt]; simp only [UInt8.toNat_ofNat']; rw [Nat.mod_eq_of_lt ha, Nat.mod_eq_of_lt hb]
    have e2 : (UInt8.ofNat b < UInt8.ofNat a) ↔ b < a := by
      rw [UInt8.lt_iff_toNat_lt]; simp only [UInt8.toNat_ofNat']; rw [Nat.mod_eq_of_lt ha, Nat.mod_eq_of_lt hb]
    simp only [List.map_cons, Lib.compareBytes, cmpN, e1, e2, ih]
theorem run_loadBytes {P : Program} {w : World} (b : Nat) : ∀ (n off : Nat) (xs : List Nat) (acc : ByteArray), xs.length = n → (∀ i, i < n → w.cell? ⟨b, off + i, none⟩ = some (.int .u8 ((xs.getD i 0 : Nat) : Int))) → AllB xs →
    (Extern.Bytes.loadBytes ⟨b, off, none⟩ n acc).run P w = .ok ⟨acc.data ++ (xs.map UInt8.ofNat).toArray⟩ w
  | 0, _, [], acc, _, _, _ => by simp [Extern.Bytes.loadBytes, Sem.run_pure]
  | n + 1, off, x :: xs, acc, hl, hc, ha => by
    have h0 := hc 0 (by omega)
    rw [Nat.add_zero] at h0
    have ih := run_loadBytes (P := P) (w := w) b n (off + 1) xs (acc.push x.toUInt8) (by simpa using hl) (fun i hi => by
      have := hc (i + 1) (by omega)
      rw [show off + 1 + i = off + (i + 1) by omega, this]; rfl) (fun y hy => ha y (by simp [hy]))
    have hadd : (⟨b, off, none⟩ : Addr).add 1 = ⟨b, off + 1, none⟩ := rfl
    have hld : (load ⟨b, off, none⟩).run P w = .ok (.int .u8 (x : Int)) w := by
      simp [h0]
    simp only [Extern.Bytes.loadBytes, Sem.run_bind, hld, Result.andThen, hadd]
    rw [show ((x : Int).toNat.toUInt8) = x.toUInt8 by simp, ih]
    simp
theorem run_bytesOf {P : Program} {w : World} {B n c : Nat} {A : Option Addr} {xs : List Nat} (h : Bytes w B A n xs) : (Extern.Bytes.bytesOf (.slice A n c)).run P w = .ok (strN xs) w := by
  cases n with
  | zero =>
    have hx : xs = [] := List.eq_nil_of_length_eq_zero h.1
    subst hx
    cases A <;> simp [Extern.Bytes.bytesOf, Extern.Bytes.loadBytes, Sem.run_pure, strN] <;> rfl
  | succ n =>
    obtain ⟨b, off, rfl, _, hc⟩ := h.2.2 (by omega)
    have e := run_loadBytes (P := P) (w := w) b (n + 1) off xs .empty h.1 hc h.2.1
    simp only [Extern.Bytes.bytesOf]
    rw [e]
    simp [strN]
theorem compare_any (B B' n m ca cb : Nat) (A A' : Option Addr) (xs ys : List Nat) (w : World) (h : Bytes w B A n xs) (h' : Bytes w B' A' m ys) :
    Calls Try.prog 23 #[.slice A n ca, .slice A' m cb] w fun e w' => e = .returned (.int .i64 (cmpN xs ys)) ∧ w = w' := by
  have t1 := run_bytesOf (P := Try.prog) (c := ca) h
  have t2 := run_bytesOf (P := Try.prog) (c := cb) h'
  have hr : (Extern.BytealgCompare.compare #[.slice A n ca, .slice A' m cb]).run Try.prog w = .ok (.int .i64 (cmpN xs ys)) w := by
    change Sem.run Try.prog (do pure (goInt (Extern.BytealgCompare.cmp (← Extern.Bytes.bytesOf (.slice A n ca)) (← Extern.Bytes.bytesOf (.slice A' m cb))))) w = _
    simp only [Sem.run_bind, t1, t2, Result.andThen, Sem.run_pure]
    rw [Lib.cmp_eq]
    have e : ∀ l : List Nat, (strN l).data.toList = l.map UInt8.ofNat := fun l => by simp [strN]
    rw [e, e, cmpN_eq xs ys h.all h'.all]
    rfl
  go_enter Try.func23, Try.ntmps23
  go_wp2_with fail
  rw [run_callFunc_extern Try.func29 (by kernel_rfl) (by kernel_rfl) (by kernel_rfl) (e := Extern.BytealgCompare.compare) (by kernel_rfl), hr]
  simp only [Result.andThen]
  rw [Oper.upon_value]
  go_wp2_with fail
  go_ret
  exact ⟨rfl, rfl⟩
/-- Forms of one size stand in the order of their numbers. -/
theorem cmpN_refl : ∀ l : List Nat, cmpN l l = 0
  | [] => rfl
  | a :: l => by rw [cmpN, if_neg (by omega), if_neg (by omega), cmpN_refl l]
theorem cmpN_val : ∀ (xs ys : List Nat), xs.length = ys.length → AllB xs → AllB ys → (cmpN xs ys < 0 ↔ valN xs < valN ys) ∧ (cmpN xs ys = 0 ↔ valN xs = valN ys) := by
  have key : ∀ (xs ys : List Nat), xs.length = ys.length → AllB xs → AllB ys → ∀ a b, (xs.foldl (fun a x => 256 * a + x) a) = a * 256 ^ xs.length + valN xs ∧ (ys.foldl (fun a x => 256 * a + x) b) = b * 256 ^ xs.length + valN ys := by
    have one : ∀ (xs : List Nat) (a : Nat), xs.foldl (fun a x => 256 * a + x) a = a * 256 ^ xs.length + valN xs := by
      intro xs
      induction xs with
      | nil => intro a; simp [valN]
      | cons x l ih =>
        intro a
        have e : valN (x :: l) = x * 256 ^ l.length + valN l := by
          have h := ih (256 * 0 + x)
          rw [Nat.mul_zero, Nat.zero_add] at h
          rw [← h, valN, List.foldl_cons, Nat.mul_zero, Nat.zero_add]
        rw [List.foldl_cons, ih, e, List.length_cons, Nat.pow_succ, Nat.add_mul]
        have : 256 * a * 256 ^ l.length = a * (256 ^ l.length * 256) := by rw [Nat.mul_comm 256 a, Nat.mul_assoc, Nat.mul_comm 256]
        omega
    intro xs ys hl _ _ a b
    exact ⟨one xs a, by rw [one ys b, hl]⟩
  intro xs
  induction xs with
  | nil =>
    intro ys hl _ _
    cases ys with
    | nil => simp [cmpN, valN]
    | cons y m => simp at hl
  | cons x l ih =>
    intro ys hl hx hy
    cases ys with
    | nil => simp at hl
    | cons y m =>
      have hl' : l.length = m.length := by simpa using hl
      have hxl : AllB l := fun z hz => hx z (by simp [hz])
      have hyl : AllB m := fun z hz => hy z (by simp [hz])
      obtain ⟨i1, i2⟩ := ih m hl' hxl hyl
      have v1 : valN (x :: l) = x * 256 ^ l.length + valN l := by rw [valN, List.foldl_cons, (key l m hl' hxl hyl (256 * 0 + x) 0).1]; simp
      have v2 : valN (y :: m) = y * 256 ^ l.length + valN m := by rw [valN, List.foldl_cons, (key l m hl' hxl hyl 0 (256 * 0 + y)).2]; simp
      have l1 := valN_lt l hxl
      have l2 := valN_lt m hyl
      rw [← hl'] at l2
      rw [v1, v2, cmpN]
      generalize 256 ^ l.length = p at *
      by_cases h1 : x < y
      · rw [if_pos h1]
        have h2 : (x + 1) * p ≤ y * p := Nat.mul_le_mul_right p h1
        rw [Nat.add_mul] at h2
        exact ⟨⟨fun _ => by omega, fun _ => by decide⟩, ⟨fun h => absurd h (by decide), fun h => by omega⟩⟩
      · rw [if_neg h1]
        by_cases h3 : y < x
        · rw [if_pos h3]
          have h2 : (y + 1) * p ≤ x * p := Nat.mul_le_mul_right p h3
          rw [Nat.add_mul] at h2
          exact ⟨⟨fun h => absurd h (by decide), fun h => by omega⟩, ⟨fun h => absurd h (by decide), fun h => by omega⟩⟩
        · rw [if_neg h3]
          obtain rfl : x = y := by omega
          rw [i1, i2]
          exact ⟨⟨fun h => by omega, fun h => by omega⟩, ⟨fun h => by omega, fun h => by omega⟩⟩
end Go.Proofs.Ytpmildbgmmiaeaa
