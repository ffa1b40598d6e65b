/- Frames plainly: which may be, their forms, there and back (layer 12). -/
import Derived.Test.YtgkihfemlbhioaaDoorForm
import Derived.Test.YtgkihfemlbhioaaDoorCrcPlain
namespace Go.Proofs.YtgkihfemlbhioaaDoor.Fr
open Crc
/-- A frame, as data. -/
structure FrV where
  kind : Int
  src : Int
  dst : Int
  ep : Nat
  life : Nat
  flow : Int
  gen : Nat
  seq : Nat
  ford : Nat
  co : List Nat
  pay : List Nat
  ranks : List (Nat × Int)
  tep : Nat
  up : List Bool
  hops : List (List (Int × Int))
theorem FrV.same {a b : FrV} : (((a.kind = b.kind ∧ a.src = b.src ∧ a.dst = b.dst) ∧ a.ep = b.ep ∧ a.life = b.life ∧ a.flow = b.flow) ∧ (a.gen = b.gen ∧ a.seq = b.seq ∧ a.ford = b.ford) ∧ (a.co = b.co ∧ a.pay = b.pay ∧ a.ranks = b.ranks) ∧ a.tep = b.tep ∧ a.up = b.up ∧ a.hops = b.hops) ↔ a = b := by
  constructor
  · intro h
    cases a; cases b
    simp only at h
    obtain ⟨⟨⟨rfl, rfl, rfl⟩, rfl, rfl, rfl⟩, ⟨rfl, rfl, rfl⟩, ⟨rfl, rfl, rfl⟩, rfl, rfl, rfl⟩ := h
    rfl
  · rintro rfl
    exact ⟨⟨⟨rfl, rfl, rfl⟩, rfl, rfl, rfl⟩, ⟨rfl, rfl, rfl⟩, ⟨rfl, rfl, rfl⟩, rfl, rfl, rfl⟩
instance : DecidableEq FrV := fun _ _ => decidable_of_iff _ FrV.same
/-- The frame of nothing. -/
def noF : FrV := ⟨0, 0, 0, 0, 0, 0, 0, 0, 0, [], [], [], 0, [], []⟩
/-- Nothing but what its Kind has. -/
def bareF (f : FrV) : FrV :=
  ⟨f.kind, f.src, f.dst, f.ep, f.life, if f.kind = 1 ∨ f.kind = 2 ∨ f.kind = 6 then f.flow else 0, if f.kind = 1 ∨ f.kind = 2 ∨ f.kind = 6 then f.gen else 0,
    if 1 ≤ f.kind ∧ f.kind ≤ 4 then f.seq else 0, if f.kind = 3 then f.ford else 0, if f.kind = 1 then f.co else [], if f.kind = 1 then f.pay else [],
    if f.kind = 2 then f.ranks else [], if f.kind = 5 then f.tep else 0, if f.kind = 5 then f.up else [], if f.kind = 5 then f.hops else []⟩
/-- An edge between two of n nodes. -/
def EdgeOk (n : Nat) (e : Int × Int) : Prop := 0 ≤ e.1 ∧ e.1 < n ∧ 0 ≤ e.2 ∧ e.2 < n ∧ e.1 ≠ e.2
instance (n : Nat) (e : Int × Int) : Decidable (EdgeOk n e) := inferInstanceAs (Decidable (_ ∧ _))
def TopoOk (tep : Nat) (up : List Bool) (hops : List (List (Int × Int))) : Prop :=
  1 ≤ tep ∧ tep ≤ 1125899906842624 ∧ 1 ≤ up.length ∧ up.length ≤ 64 ∧ 1 ≤ hops.length ∧ hops.length ≤ 4 ∧ ∀ l ∈ hops, l.length ≤ 128 ∧ ∀ e ∈ l, EdgeOk up.length e
instance (tep : Nat) (up : List Bool) (hops : List (List (Int × Int))) : Decidable (TopoOk tep up hops) := inferInstanceAs (Decidable (_ ∧ _))
/-- Ranks: p is the generation ahead of the first. -/
def RankOk (g : Nat) : Option Nat → List (Nat × Int) → Prop
  | _, [] => True
  | p, r :: l => (g ≤ r.1 ∧ r.1 < g + 16 ∧ r.1 < 1099511627776 ∧ 1 ≤ r.2 ∧ r.2 ≤ 255 ∧ (match p with | none => True | some q => q < r.1)) ∧ RankOk g (some r.1) l
instance RankOk.dec (g : Nat) : ∀ (p : Option Nat) (l : List (Nat × Int)), Decidable (RankOk g p l)
  | _, [] => isTrue trivial
  | none, r :: l => by
    have := RankOk.dec g (some r.1) l
    unfold RankOk
    exact inferInstance
  | some q, r :: l => by
    have := RankOk.dec g (some r.1) l
    unfold RankOk
    exact inferInstance
/-- Which frames may be. -/
structure MayF (f : FrV) : Prop where
  k1 : 1 ≤ f.kind
  k6 : f.kind ≤ 6
  s0 : 0 ≤ f.src
  s63 : f.src ≤ 63
  d0 : 0 ≤ f.dst
  d63 : f.dst ≤ 63
  ep : f.ep ≤ 1125899906842624
  life : f.life ≤ 1125899906842624
  bare : bareF f = f
  member : f.kind = 5 → f.src = f.dst ∧ f.life = 0 ∧ TopoOk f.tep f.up f.hops
  other : f.kind ≠ 5 → f.src ≠ f.dst ∧ 1 ≤ f.life ∧ 0 ≤ f.flow ∧ f.flow ≤ 3 ∧ f.seq ≤ 1125899906842624 ∧ f.ford ≤ 1125899906842624 ∧ f.gen ≤ 1099511627776
  data : f.kind = 1 → f.gen < 1099511627776 ∧ 1 ≤ f.seq ∧ 1 ≤ f.co.length ∧ f.co.length < 256 ∧ 1 ≤ f.pay.length ∧ f.pay.length < 65536
  feed : f.kind = 2 → RankOk f.gen none f.ranks ∧ 1 ≤ f.seq
  cred : f.kind = 3 → 1 ≤ f.ford
/-- Forms. -/
def rankForm (r : Nat × Int) : List Nat := formN 8 r.1 ++ formN 1 r.2.toNat
def edgeForm (e : Int × Int) : List Nat := formN 1 e.1.toNat ++ formN 1 e.2.toNat
def hopForm (l : List (Int × Int)) : List Nat := formN 1 l.length ++ l.flatMap edgeForm
def upForm (b : Bool) : Nat := if b then 1 else 0
def dataForm (f : FrV) : List Nat := formN 1 f.flow.toNat ++ (formN 8 f.gen ++ (formN 8 f.seq ++ (formN 1 f.co.length ++ (f.co ++ (formN 2 f.pay.length ++ f.pay)))))
def feedForm (f : FrV) : List Nat := formN 1 f.flow.toNat ++ (formN 8 f.gen ++ (formN 8 f.seq ++ (formN 1 f.ranks.length ++ f.ranks.flatMap rankForm)))
def topoForm (f : FrV) : List Nat := formN 8 f.tep ++ (formN 1 f.up.length ++ (f.up.map upForm ++ (formN 1 f.hops.length ++ f.hops.flatMap hopForm)))
def restForm (f : FrV) : List Nat :=
  if f.kind = 1 then dataForm f
  else if f.kind = 2 then feedForm f
  else if f.kind = 3 then formN 8 f.seq ++ formN 8 f.ford
  else if f.kind = 4 then formN 8 f.seq
  else if f.kind = 5 then topoForm f
  else if f.kind = 6 then formN 1 f.flow.toNat ++ formN 8 f.gen
  else []
def formF (f : FrV) : List Nat := formN 1 f.kind.toNat ++ (formN 1 f.src.toNat ++ (formN 1 f.dst.toNat ++ (formN 8 f.ep ++ (formN 8 f.life ++ restForm f))))
/-- Readers. -/
def Pa (α : Type) := List Nat → Option (α × List Nat)
def Pa.bind {α β : Type} (p : Pa α) (q : α → Pa β) : Pa β := fun l => match p l with
  | some (a, r) => q a r
  | none => none
def Pa.ret {α : Type} (a : α) : Pa α := fun l => some (a, l)
def numP (s : Nat) : Pa Nat := fun l => if s ≤ l.length then some (valN (l.take s), l.drop s) else none
def takeP (n : Nat) : Pa (List Nat) := fun l => if n ≤ l.length then some (l.take n, l.drop n) else none
def manyP {α : Type} (p : Pa α) : Nat → Pa (List α)
  | 0 => Pa.ret []
  | n + 1 => p.bind fun a => (manyP p n).bind fun as => Pa.ret (a :: as)
def rankP : Pa (Nat × Int) := (numP 8).bind fun g => (numP 1).bind fun r => Pa.ret (g, (r : Int))
def edgeP : Pa (Int × Int) := (numP 1).bind fun a => (numP 1).bind fun b => Pa.ret ((a : Int), (b : Int))
def hopP : Pa (List (Int × Int)) := (numP 1).bind fun n => manyP edgeP n
def upQ (l : List Nat) : Pa (List Bool) := fun t => if l.all (· ≤ 1) = true then some (l.map (· == 1), t) else none
def upP (n : Nat) : Pa (List Bool) := (takeP n).bind upQ
def Pa.fail {α : Type} : Pa α := fun _ => none
def dataP (s d ep life : Nat) : Pa FrV := (numP 1).bind fun fl => (numP 8).bind fun g => (numP 8).bind fun q => (numP 1).bind fun n => (takeP n).bind fun co => (numP 2).bind fun m => (takeP m).bind fun pay =>
  Pa.ret ⟨1, s, d, ep, life, fl, g, q, 0, co, pay, [], 0, [], []⟩
def feedP (s d ep life : Nat) : Pa FrV := (numP 1).bind fun fl => (numP 8).bind fun g => (numP 8).bind fun q => (numP 1).bind fun n => (manyP rankP n).bind fun ranks =>
  Pa.ret ⟨2, s, d, ep, life, fl, g, q, 0, [], [], ranks, 0, [], []⟩
def credP (s d ep life : Nat) : Pa FrV := (numP 8).bind fun q => (numP 8).bind fun x => Pa.ret ⟨3, s, d, ep, life, 0, 0, q, x, [], [], [], 0, [], []⟩
def probP (s d ep life : Nat) : Pa FrV := (numP 8).bind fun q => Pa.ret ⟨4, s, d, ep, life, 0, 0, q, 0, [], [], [], 0, [], []⟩
def topoP (s d ep life : Nat) : Pa FrV := (numP 8).bind fun te => (numP 1).bind fun n => (upP n).bind fun up => (numP 1).bind fun m => (manyP hopP m).bind fun hops =>
  Pa.ret ⟨5, s, d, ep, life, 0, 0, 0, 0, [], [], [], te, up, hops⟩
def closP (s d ep life : Nat) : Pa FrV := (numP 1).bind fun fl => (numP 8).bind fun g => Pa.ret ⟨6, s, d, ep, life, fl, g, 0, 0, [], [], [], 0, [], []⟩
def restP (k s d ep life : Nat) : Pa FrV :=
  if k = 1 then dataP s d ep life else if k = 2 then feedP s d ep life else if k = 3 then credP s d ep life else if k = 4 then probP s d ep life
  else if k = 5 then topoP s d ep life else if k = 6 then closP s d ep life else Pa.fail
theorem rest_1 (s d ep life : Nat) : restP 1 s d ep life = dataP s d ep life := if_pos rfl
theorem rest_2 (s d ep life : Nat) : restP 2 s d ep life = feedP s d ep life := by unfold restP; rw [if_neg (by decide), if_pos rfl]
theorem rest_3 (s d ep life : Nat) : restP 3 s d ep life = credP s d ep life := by unfold restP; rw [if_neg (by decide), if_neg (by decide), if_pos rfl]
theorem rest_4 (s d ep life : Nat) : restP 4 s d ep life = probP s d ep life := by unfold restP; rw [if_neg (by decide), if_neg (by decide), if_neg (by decide), if_pos rfl]
theorem rest_5 (s d ep life : Nat) : restP 5 s d ep life = topoP s d ep life := by unfold restP; rw [if_neg (by decide), if_neg (by decide), if_neg (by decide), if_neg (by decide), if_pos rfl]
theorem rest_6 (s d ep life : Nat) : restP 6 s d ep life = closP s d ep life := by unfold restP; rw [if_neg (by decide), if_neg (by decide), if_neg (by decide), if_neg (by decide), if_neg (by decide), if_pos rfl]
theorem restForm_1 {f : FrV} (h : f.kind = 1) : restForm f = dataForm f := if_pos h
theorem restForm_2 {f : FrV} (h : f.kind = 2) : restForm f = feedForm f := by unfold restForm; rw [h]; rfl
theorem restForm_3 {f : FrV} (h : f.kind = 3) : restForm f = formN 8 f.seq ++ formN 8 f.ford := by unfold restForm; rw [h]; rfl
theorem restForm_4 {f : FrV} (h : f.kind = 4) : restForm f = formN 8 f.seq := by unfold restForm; rw [h]; rfl
theorem restForm_5 {f : FrV} (h : f.kind = 5) : restForm f = topoForm f := by unfold restForm; rw [h]; rfl
theorem restForm_6 {f : FrV} (h : f.kind = 6) : restForm f = formN 1 f.flow.toNat ++ formN 8 f.gen := by unfold restForm; rw [h]; rfl
theorem rest_fail {k s d ep life : Nat} (h : k = 0 ∨ 6 < k) : restP k s d ep life = Pa.fail := by
  unfold restP
  rw [if_neg (by omega), if_neg (by omega), if_neg (by omega), if_neg (by omega), if_neg (by omega), if_neg (by omega)]
def parseF : Pa FrV := (numP 1).bind fun k => (numP 1).bind fun s => (numP 1).bind fun d => (numP 8).bind fun ep => (numP 8).bind fun life => restP k s d ep life
section
variable {α β : Type}
theorem bind_some {p : Pa α} {q : α → Pa β} {l r : List Nat} {a : α} (h : p l = some (a, r)) : p.bind q l = q a r := by unfold Pa.bind; rw [h]
theorem bind_none {p : Pa α} {q : α → Pa β} {l : List Nat} (h : p l = none) : p.bind q l = none := by unfold Pa.bind; rw [h]
theorem bind_inv {p : Pa α} {q : α → Pa β} {l t : List Nat} {b : β} (h : p.bind q l = some (b, t)) : ∃ a r, p l = some (a, r) ∧ q a r = some (b, t) := by
  unfold Pa.bind at h
  cases e : p l with
  | none => rw [e] at h; cases h
  | some x => rw [e] at h; exact ⟨x.1, x.2, rfl, h⟩
end
theorem num_rd {s n : Nat} (t : List Nat) (h : n < 256 ^ s) : numP s (formN s n ++ t) = some (n, t) := by
  unfold numP
  rw [if_pos (by rw [List.length_append, formN_length]; omega), List.take_left' (formN_length s n), List.drop_left' (formN_length s n), valN_form, Nat.mod_eq_of_lt h]
theorem num_un {s n : Nat} {l t : List Nat} (hl : AllB l) (h : numP s l = some (n, t)) : l = formN s n ++ t ∧ n < 256 ^ s ∧ AllB t := by
  unfold numP at h
  split at h
  · rename_i hs
    injection h with h
    injection h with h1 h2
    have ht : (l.take s).length = s := by rw [List.length_take]; omega
    have hb : AllB (l.take s) := fun x hx => hl x (List.mem_of_mem_take hx)
    have e := form_val _ hb
    rw [ht, h1] at e
    have hlt := valN_lt _ hb
    rw [ht, h1] at hlt
    exact ⟨by rw [e, ← h2, List.take_append_drop], hlt, fun x hx => hl x (List.mem_of_mem_drop (h2 ▸ hx))⟩
  · cases h
theorem take_rd {xs : List Nat} (t : List Nat) : takeP xs.length (xs ++ t) = some (xs, t) := by
  unfold takeP
  rw [if_pos (by rw [List.length_append]; omega), List.take_left' rfl, List.drop_left' rfl]
theorem take_un {n : Nat} {l xs t : List Nat} (hl : AllB l) (h : takeP n l = some (xs, t)) : l = xs ++ t ∧ xs.length = n ∧ AllB xs ∧ AllB t := by
  unfold takeP at h
  split at h
  · rename_i hs
    injection h with h
    injection h with h1 h2
    subst h1; subst h2
    exact ⟨(List.take_append_drop _ _).symm, by rw [List.length_take]; omega, fun x hx => hl x (List.mem_of_mem_take hx), fun x hx => hl x (List.mem_of_mem_drop hx)⟩
  · cases h
section
variable {α : Type}
theorem many_rd {p : Pa α} {f : α → List Nat} {ok : α → Prop} (hp : ∀ a t, ok a → p (f a ++ t) = some (a, t)) : ∀ (l : List α) (t : List Nat), (∀ a ∈ l, ok a) → manyP p l.length (l.flatMap f ++ t) = some (l, t)
  | [], t, _ => rfl
  | a :: l, t, h => by
    rw [List.flatMap_cons, List.append_assoc, List.length_cons, manyP, bind_some (hp a _ (h a (by simp))), bind_some (many_rd hp l t fun x hx => h x (by simp [hx]))]
    rfl
theorem many_un {p : Pa α} {f : α → List Nat} (hp : ∀ l a t, AllB l → p l = some (a, t) → l = f a ++ t ∧ AllB t) : ∀ (n : Nat) (l : List Nat) (as : List α) (t : List Nat), AllB l → manyP p n l = some (as, t) → l = as.flatMap f ++ t ∧ as.length = n ∧ AllB t
  | 0, l, as, t, hl, h => by
    injection h with h
    injection h with h1 h2
    subst h1; subst h2
    exact ⟨rfl, rfl, hl⟩
  | n + 1, l, as, t, hl, h => by
    rw [manyP] at h
    obtain ⟨a, r, h1, h⟩ := bind_inv h
    obtain ⟨as', r', h2, h⟩ := bind_inv h
    injection h with h
    injection h with e1 e2
    subst e1; subst e2
    obtain ⟨u1, u2⟩ := hp l a r hl h1
    obtain ⟨v1, v2, v3⟩ := many_un hp n r as' r' u2 h2
    exact ⟨by rw [u1, v1, List.flatMap_cons, List.append_assoc], by rw [List.length_cons, v2], v3⟩
end
theorem rank_rd (r : Nat × Int) (t : List Nat) (h : r.1 < 256 ^ 8 ∧ 0 ≤ r.2 ∧ r.2 < 256) : rankP (rankForm r ++ t) = some (r, t) := by
  obtain ⟨g, v⟩ := r
  simp only at h
  rw [rankForm, List.append_assoc, rankP, bind_some (num_rd _ h.1), bind_some (num_rd _ (by simp only; omega))]
  simp only [Pa.ret]
  rw [Int.toNat_of_nonneg h.2.1]
theorem rank_un (l : List Nat) (r : Nat × Int) (t : List Nat) (hl : AllB l) (h : rankP l = some (r, t)) : l = rankForm r ++ t ∧ AllB t := by
  unfold rankP at h
  obtain ⟨g, r1, h1, h⟩ := bind_inv h
  obtain ⟨v, r2, h2, h⟩ := bind_inv h
  injection h with h
  injection h with e1 e2
  subst e1; subst e2
  obtain ⟨u1, _, u3⟩ := num_un hl h1
  obtain ⟨v1, _, v3⟩ := num_un u3 h2
  exact ⟨by rw [u1, v1, rankForm, List.append_assoc]; rfl, v3⟩
theorem edge_rd (e : Int × Int) (t : List Nat) (h : 0 ≤ e.1 ∧ e.1 < 256 ∧ 0 ≤ e.2 ∧ e.2 < 256) : edgeP (edgeForm e ++ t) = some (e, t) := by
  obtain ⟨a, b⟩ := e
  simp only at h
  rw [edgeForm, List.append_assoc, edgeP, bind_some (num_rd _ (by simp only; omega)), bind_some (num_rd _ (by simp only; omega))]
  simp only [Pa.ret]
  rw [Int.toNat_of_nonneg h.1, Int.toNat_of_nonneg h.2.2.1]
theorem edge_un (l : List Nat) (e : Int × Int) (t : List Nat) (hl : AllB l) (h : edgeP l = some (e, t)) : l = edgeForm e ++ t ∧ AllB t := by
  unfold edgeP at h
  obtain ⟨g, r1, h1, h⟩ := bind_inv h
  obtain ⟨v, r2, h2, h⟩ := bind_inv h
  injection h with h
  injection h with e1 e2
  subst e1; subst e2
  obtain ⟨u1, _, u3⟩ := num_un hl h1
  obtain ⟨v1, _, v3⟩ := num_un u3 h2
  exact ⟨by rw [u1, v1, edgeForm, List.append_assoc]; rfl, v3⟩
theorem hop_rd (l : List (Int × Int)) (t : List Nat) (h : l.length < 256 ∧ ∀ e ∈ l, 0 ≤ e.1 ∧ e.1 < 256 ∧ 0 ≤ e.2 ∧ e.2 < 256) : hopP (hopForm l ++ t) = some (l, t) := by
  rw [hopForm, List.append_assoc, hopP, bind_some (num_rd _ h.1), many_rd edge_rd l t h.2]
theorem hop_un (l : List Nat) (e : List (Int × Int)) (t : List Nat) (hl : AllB l) (h : hopP l = some (e, t)) : l = hopForm e ++ t ∧ AllB t := by
  unfold hopP at h
  obtain ⟨n, r1, h1, h⟩ := bind_inv h
  obtain ⟨u1, _, u3⟩ := num_un hl h1
  obtain ⟨v1, v2, v3⟩ := many_un edge_un n r1 e t u3 h
  exact ⟨by rw [u1, v1, hopForm, List.append_assoc, v2], v3⟩
theorem up_rd (u : List Bool) (t : List Nat) : upP u.length (u.map upForm ++ t) = some (u, t) := by
  have h : takeP u.length (u.map upForm ++ t) = some (u.map upForm, t) := by
    have := take_rd (xs := u.map upForm) t
    rwa [List.length_map] at this
  rw [upP, bind_some h, upQ, if_pos]
  · simp only [List.map_map]
    congr 2
    conv => rhs; rw [← List.map_id u]
    exact List.map_congr_left fun b _ => by cases b <;> rfl
  · rw [List.all_eq_true]
    intro x hx
    obtain ⟨b, _, rfl⟩ := List.mem_map.1 hx
    cases b <;> rfl
theorem up_un (n : Nat) (l : List Nat) (u : List Bool) (t : List Nat) (hl : AllB l) (h : upP n l = some (u, t)) : l = u.map upForm ++ t ∧ u.length = n ∧ AllB t := by
  unfold upP at h
  obtain ⟨xs, r, h1, h⟩ := bind_inv h
  obtain ⟨u1, u2, _, u4⟩ := take_un hl h1
  unfold upQ at h
  split at h
  · rename_i ha
    injection h with h
    injection h with e1 e2
    subst e1; subst e2
    refine ⟨?_, by rw [List.length_map, u2], u4⟩
    rw [u1, List.map_map]
    congr 1
    conv => lhs; rw [← List.map_id xs]
    refine List.map_congr_left fun x hx => ?_
    have hx1 : x ≤ 1 := by simpa using List.all_eq_true.1 ha x hx
    rcases (show x = 0 ∨ x = 1 by omega) with e | e <;> subst e <;> rfl
  · cases h
end Go.Proofs.YtgkihfemlbhioaaDoor.Fr
/- Frames plainly: there and back. -/
namespace Go.Proofs.YtgkihfemlbhioaaDoor.Fr
open Crc
theorem rank_bounds (g : Nat) : ∀ (p : Option Nat) (l : List (Nat × Int)), RankOk g p l → ∀ r ∈ l, r.1 < 256 ^ 8 ∧ 0 ≤ r.2 ∧ r.2 < 256
  | _, [], _, r, hr => by simp at hr
  | p, x :: l, h, r, hr => by
    obtain ⟨⟨_, _, a, b, c, _⟩, h2⟩ := h
    rcases List.mem_cons.1 hr with rfl | hr
    · exact ⟨by omega, by omega, by omega⟩
    · exact rank_bounds g _ l h2 r hr
/-- No more than sixteen ranks. -/
theorem rank_count (g : Nat) : ∀ (q : Nat) (l : List (Nat × Int)), RankOk g (some q) l → g ≤ q → q < g + 16 → l.length + (q - g) < 16
  | q, [], _, h1, h2 => by simp; omega
  | q, x :: l, h, h1, h2 => by
    obtain ⟨⟨a, b, _, _, _, c⟩, h2⟩ := h
    have c : q < x.1 := c
    have := rank_count g x.1 l h2 a b
    rw [List.length_cons]; omega
theorem rank_few (g : Nat) (l : List (Nat × Int)) (h : RankOk g none l) : l.length ≤ 16 := by
  cases l with
  | nil => simp
  | cons x l =>
    obtain ⟨⟨a, b, _⟩, h2⟩ := h
    have := rank_count g x.1 l h2 a b
    rw [List.length_cons]; omega
set_option maxHeartbeats 1000000 in
/-- A frame's form, read, is the frame; what is behind stays. -/
theorem parse_rd {f : FrV} (h : MayF f) (t : List Nat) : parseF (formF f ++ t) = some (f, t) := by
  obtain ⟨k, s, d, ep, lf, fl, g, q, x, co, pay, rk, te, up, hops⟩ := f
  obtain ⟨h1, h2, h3, h4, h5, h6, h7, h8, hb, hm, ho, hd, hf, hc⟩ := h
  dsimp only at *
  obtain ⟨k, rfl⟩ : ∃ n : Nat, k = n := ⟨k.toNat, by omega⟩
  obtain ⟨s, rfl⟩ : ∃ n : Nat, s = n := ⟨s.toNat, by omega⟩
  obtain ⟨d, rfl⟩ : ∃ n : Nat, d = n := ⟨d.toNat, by omega⟩
  simp only [formF, List.append_assoc, Int.toNat_natCast]
  rw [parseF, bind_some (num_rd _ (by omega)), bind_some (num_rd _ (by omega)), bind_some (num_rd _ (by omega)), bind_some (num_rd _ (by omega)), bind_some (num_rd _ (by omega))]
  rcases (show k = 1 ∨ k = 2 ∨ k = 3 ∨ k = 4 ∨ k = 5 ∨ k = 6 by omega) with rfl | rfl | rfl | rfl | rfl | rfl
  · have ho := ho (by decide)
    have hd := hd rfl
    obtain ⟨fl, rfl⟩ : ∃ n : Nat, fl = n := ⟨fl.toNat, by omega⟩
    simp [bareF] at hb
    obtain ⟨rfl, rfl, rfl, rfl, rfl⟩ := hb
    rw [rest_1, restForm_1 rfl]
    simp only [dataForm, Int.toNat_natCast, List.append_assoc]
    rw [dataP, bind_some (num_rd _ (by omega)), bind_some (num_rd _ (by omega)), bind_some (num_rd _ (by omega)), bind_some (num_rd _ (by omega)), bind_some (take_rd _), bind_some (num_rd _ (by omega)), bind_some (take_rd _)]
    rfl
  · have ho := ho (by decide)
    have hf := hf rfl
    obtain ⟨fl, rfl⟩ : ∃ n : Nat, fl = n := ⟨fl.toNat, by omega⟩
    simp [bareF] at hb
    obtain ⟨rfl, rfl, rfl, rfl, rfl, rfl⟩ := hb
    have hl := rank_few g rk hf.1
    rw [rest_2, restForm_2 rfl]
    simp only [feedForm, Int.toNat_natCast, List.append_assoc]
    rw [feedP, bind_some (num_rd _ (by omega)), bind_some (num_rd _ (by omega)), bind_some (num_rd _ (by omega)), bind_some (num_rd _ (by omega)), bind_some (many_rd rank_rd rk t (rank_bounds g _ rk hf.1))]
    rfl
  · have ho := ho (by decide)
    simp [bareF] at hb
    obtain ⟨rfl, rfl, rfl, rfl, rfl, rfl, rfl, rfl⟩ := hb
    rw [rest_3, restForm_3 rfl]
    simp only [List.append_assoc]
    rw [credP, bind_some (num_rd _ (by omega)), bind_some (num_rd _ (by omega))]
    rfl
  · have ho := ho (by decide)
    simp [bareF] at hb
    obtain ⟨rfl, rfl, rfl, rfl, rfl, rfl, rfl, rfl, rfl⟩ := hb
    rw [rest_4, restForm_4 rfl, probP]
    dsimp only
    rw [bind_some (num_rd _ (by omega))]
    rfl
  · have hm := hm rfl
    simp [bareF] at hb
    obtain ⟨rfl, rfl, rfl, rfl, rfl, rfl, rfl⟩ := hb
    obtain ⟨a1, a2, a3, a4, a5, a6, a7⟩ := hm.2.2
    rw [rest_5, restForm_5 rfl]
    simp only [topoForm, List.append_assoc]
    rw [topoP, bind_some (num_rd _ (by omega)), bind_some (num_rd _ (by omega)), bind_some (up_rd up _), bind_some (num_rd _ (by omega)), bind_some (many_rd hop_rd hops t fun l hl => ⟨by have := (a7 l hl).1; omega, fun e he => by
      obtain ⟨b1, b2, b3, b4, _⟩ := (a7 l hl).2 e he
      omega⟩)]
    rfl
  · have ho := ho (by decide)
    obtain ⟨fl, rfl⟩ : ∃ n : Nat, fl = n := ⟨fl.toNat, by omega⟩
    simp [bareF] at hb
    obtain ⟨rfl, rfl, rfl, rfl, rfl, rfl, rfl, rfl⟩ := hb
    rw [rest_6, restForm_6 rfl]
    simp only [Int.toNat_natCast, List.append_assoc]
    rw [closP, bind_some (num_rd _ (by omega)), bind_some (num_rd _ (by omega))]
    rfl
/-- What is read as a frame is its form. -/
theorem parse_un {l t : List Nat} {f : FrV} (hl : AllB l) (h : parseF l = some (f, t)) : l = formF f ++ t ∧ AllB t := by
  unfold parseF at h
  obtain ⟨k, l1, a1, h⟩ := bind_inv h
  obtain ⟨u1, v1, w1⟩ := num_un hl a1
  obtain ⟨s, l2, a2, h⟩ := bind_inv h
  obtain ⟨u2, v2, w2⟩ := num_un w1 a2
  obtain ⟨d, l3, a3, h⟩ := bind_inv h
  obtain ⟨u3, v3, w3⟩ := num_un w2 a3
  obtain ⟨ep, l4, a4, h⟩ := bind_inv h
  obtain ⟨u4, v4, w4⟩ := num_un w3 a4
  obtain ⟨lf, l5, a5, h⟩ := bind_inv h
  obtain ⟨u5, v5, w5⟩ := num_un w4 a5
  have key : ∀ f : FrV, f.kind = k → f.src = s → f.dst = d → f.ep = ep → f.life = lf → ∀ r, l5 = restForm f ++ r → l = formF f ++ r := fun f e1 e2 e3 e4 e5 r e => by
    rw [u1, u2, u3, u4, u5, e, formF, e1, e2, e3, e4, e5]
    simp only [Int.toNat_natCast, List.append_assoc]
  rcases (show k = 1 ∨ k = 2 ∨ k = 3 ∨ k = 4 ∨ k = 5 ∨ k = 6 ∨ (k = 0 ∨ 6 < k) by omega) with rfl | rfl | rfl | rfl | rfl | rfl | hk
  · rw [rest_1] at h
    unfold dataP at h
    obtain ⟨fl, m1, b1, h⟩ := bind_inv h
    obtain ⟨x1, y1, z1⟩ := num_un w5 b1
    obtain ⟨g, m2, b2, h⟩ := bind_inv h
    obtain ⟨x2, y2, z2⟩ := num_un z1 b2
    obtain ⟨q, m3, b3, h⟩ := bind_inv h
    obtain ⟨x3, y3, z3⟩ := num_un z2 b3
    obtain ⟨n, m4, b4, h⟩ := bind_inv h
    obtain ⟨x4, y4, z4⟩ := num_un z3 b4
    obtain ⟨co, m5, b5, h⟩ := bind_inv h
    obtain ⟨x5, y5, y5', z5⟩ := take_un z4 b5
    obtain ⟨m, m6, b6, h⟩ := bind_inv h
    obtain ⟨x6, y6, z6⟩ := num_un z5 b6
    obtain ⟨pay, m7, b7, h⟩ := bind_inv h
    obtain ⟨x7, y7, y7', z7⟩ := take_un z6 b7
    injection h with h
    injection h with e1 e2
    subst e1; subst e2
    refine ⟨key _ rfl rfl rfl rfl rfl _ ?_, z7⟩
    rw [restForm_1 rfl, x1, x2, x3, x4, x5, x6, x7]
    simp only [dataForm, Int.toNat_natCast, List.append_assoc, y5, y7]
  · rw [rest_2] at h
    unfold feedP at h
    obtain ⟨fl, m1, b1, h⟩ := bind_inv h
    obtain ⟨x1, y1, z1⟩ := num_un w5 b1
    obtain ⟨g, m2, b2, h⟩ := bind_inv h
    obtain ⟨x2, y2, z2⟩ := num_un z1 b2
    obtain ⟨q, m3, b3, h⟩ := bind_inv h
    obtain ⟨x3, y3, z3⟩ := num_un z2 b3
    obtain ⟨n, m4, b4, h⟩ := bind_inv h
    obtain ⟨x4, y4, z4⟩ := num_un z3 b4
    obtain ⟨rk, m5, b5, h⟩ := bind_inv h
    obtain ⟨x5, y5, z5⟩ := many_un rank_un _ _ _ _ z4 b5
    injection h with h
    injection h with e1 e2
    subst e1; subst e2
    refine ⟨key _ rfl rfl rfl rfl rfl _ ?_, z5⟩
    rw [restForm_2 rfl, x1, x2, x3, x4, x5]
    simp only [feedForm, Int.toNat_natCast, List.append_assoc, y5]
  · rw [rest_3] at h
    unfold credP at h
    obtain ⟨q, m1, b1, h⟩ := bind_inv h
    obtain ⟨x1, y1, z1⟩ := num_un w5 b1
    obtain ⟨x, m2, b2, h⟩ := bind_inv h
    obtain ⟨x2, y2, z2⟩ := num_un z1 b2
    injection h with h
    injection h with e1 e2
    subst e1; subst e2
    refine ⟨key _ rfl rfl rfl rfl rfl _ ?_, z2⟩
    rw [restForm_3 rfl, x1, x2]
    simp only [List.append_assoc]
  · rw [rest_4] at h
    unfold probP at h
    obtain ⟨q, m1, b1, h⟩ := bind_inv h
    obtain ⟨x1, y1, z1⟩ := num_un w5 b1
    injection h with h
    injection h with e1 e2
    subst e1; subst e2
    refine ⟨key _ rfl rfl rfl rfl rfl _ ?_, z1⟩
    rw [restForm_4 rfl, x1]
  · rw [rest_5] at h
    unfold topoP at h
    obtain ⟨te, m1, b1, h⟩ := bind_inv h
    obtain ⟨x1, y1, z1⟩ := num_un w5 b1
    obtain ⟨n, m2, b2, h⟩ := bind_inv h
    obtain ⟨x2, y2, z2⟩ := num_un z1 b2
    obtain ⟨up, m3, b3, h⟩ := bind_inv h
    obtain ⟨x3, y3, z3⟩ := up_un _ _ _ _ z2 b3
    obtain ⟨m, m4, b4, h⟩ := bind_inv h
    obtain ⟨x4, y4, z4⟩ := num_un z3 b4
    obtain ⟨hops, m5, b5, h⟩ := bind_inv h
    obtain ⟨x5, y5, z5⟩ := many_un hop_un _ _ _ _ z4 b5
    injection h with h
    injection h with e1 e2
    subst e1; subst e2
    refine ⟨key _ rfl rfl rfl rfl rfl _ ?_, z5⟩
    rw [restForm_5 rfl, x1, x2, x3, x4, x5]
    simp only [topoForm, List.append_assoc, y3, y5]
  · rw [rest_6] at h
    unfold closP at h
    obtain ⟨fl, m1, b1, h⟩ := bind_inv h
    obtain ⟨x1, y1, z1⟩ := num_un w5 b1
    obtain ⟨g, m2, b2, h⟩ := bind_inv h
    obtain ⟨x2, y2, z2⟩ := num_un z1 b2
    injection h with h
    injection h with e1 e2
    subst e1; subst e2
    refine ⟨key _ rfl rfl rfl rfl rfl _ ?_, z2⟩
    rw [restForm_6 rfl, x1, x2]
    simp only [Int.toNat_natCast, List.append_assoc]
  · rw [rest_fail hk] at h
    cases h
end Go.Proofs.YtgkihfemlbhioaaDoor.Fr
/- Frames plainly: what Put and Take tell; sizes; unlike frames; what a line turned. -/
namespace Go.Proofs.YtgkihfemlbhioaaDoor.Fr
open Crc
theorem MayF.iff {f : FrV} : (((1 ≤ f.kind ∧ f.kind ≤ 6) ∧ (0 ≤ f.src ∧ f.src ≤ 63) ∧ 0 ≤ f.dst ∧ f.dst ≤ 63) ∧ (f.ep ≤ 1125899906842624 ∧ f.life ≤ 1125899906842624 ∧ bareF f = f) ∧
    ((f.kind = 5 → f.src = f.dst ∧ f.life = 0 ∧ TopoOk f.tep f.up f.hops) ∧
    (f.kind ≠ 5 → f.src ≠ f.dst ∧ 1 ≤ f.life ∧ 0 ≤ f.flow ∧ f.flow ≤ 3 ∧ f.seq ≤ 1125899906842624 ∧ f.ford ≤ 1125899906842624 ∧ f.gen ≤ 1099511627776) ∧
    (f.kind = 1 → f.gen < 1099511627776 ∧ 1 ≤ f.seq ∧ 1 ≤ f.co.length ∧ f.co.length < 256 ∧ 1 ≤ f.pay.length ∧ f.pay.length < 65536) ∧
    (f.kind = 2 → RankOk f.gen none f.ranks ∧ 1 ≤ f.seq) ∧ (f.kind = 3 → 1 ≤ f.ford))) ↔ MayF f :=
  ⟨fun ⟨⟨⟨a1, a2⟩, ⟨a3, a4⟩, a5, a6⟩, ⟨b1, b2, b3⟩, c1, c2, c3, c4, c5⟩ => ⟨a1, a2, a3, a4, a5, a6, b1, b2, b3, c1, c2, c3, c4, c5⟩,
   fun ⟨a1, a2, a3, a4, a5, a6, b1, b2, b3, c1, c2, c3, c4, c5⟩ => ⟨⟨⟨a1, a2⟩, ⟨a3, a4⟩, a5, a6⟩, ⟨b1, b2, b3⟩, c1, c2, c3, c4, c5⟩⟩
instance (f : FrV) : Decidable (MayF f) := decidable_of_iff _ MayF.iff
/-- A form's frame, if it is one's that may be. -/
def readF (b : List Nat) : Option FrV := match parseF b with
  | some (f, []) => if MayF f then some f else none
  | _ => none
theorem read_form {f : FrV} (h : MayF f) : readF (formF f) = some f := by
  have := parse_rd h []
  rw [List.append_nil] at this
  rw [readF, this]
  exact if_pos h
theorem read_inv {b : List Nat} {f : FrV} (hb : AllB b) (h : readF b = some f) : MayF f ∧ b = formF f := by
  unfold readF at h
  split at h
  · rename_i g e
    split at h
    · rename_i hm
      injection h with h
      subst h
      have := (parse_un hb e).1
      rw [List.append_nil] at this
      exact ⟨hm, this⟩
    · cases h
  · cases h
/-- What Put tells. -/
def putE (f : FrV) : Int := if MayF f then 0 else 1
def putV (f : FrV) : List Nat := if MayF f then sealN (formF f) else []
/-- What Take tells. -/
def tkE (b : List Nat) : Nat := if 70000 < b.length then 3 else if openErr b = 0 then (if (readF (openVal b)).isSome = true then 0 else 5) else openErr b
def tkV (b : List Nat) : FrV := if tkE b = 0 then (readF (openVal b)).getD noF else noF
/-- Bytes. -/
def BytesF (f : FrV) : Prop := AllB f.co ∧ AllB f.pay
theorem all_flat {α : Type} {l : List α} {g : α → List Nat} (h : ∀ a ∈ l, AllB (g a)) : AllB (l.flatMap g) := fun x hx => by
  obtain ⟨a, ha, hx⟩ := List.mem_flatMap.1 hx
  exact h a ha x hx
theorem edge_all (e : Int × Int) : AllB (edgeForm e) := (formN_all _ _).append (formN_all _ _)
theorem form_all {f : FrV} (h : BytesF f) : AllB (formF f) := by
  refine (formN_all _ _).append ((formN_all _ _).append ((formN_all _ _).append ((formN_all _ _).append ((formN_all _ _).append ?_))))
  unfold restForm
  split
  · exact (formN_all _ _).append ((formN_all _ _).append ((formN_all _ _).append ((formN_all _ _).append (h.1.append ((formN_all _ _).append h.2)))))
  · split
    · exact (formN_all _ _).append ((formN_all _ _).append ((formN_all _ _).append ((formN_all _ _).append (all_flat fun r _ => (formN_all _ _).append (formN_all _ _)))))
    · split
      · exact (formN_all _ _).append (formN_all _ _)
      · split
        · exact formN_all _ _
        · split
          · refine (formN_all _ _).append ((formN_all _ _).append (AllB.append (fun x hx => ?_) ((formN_all _ _).append (all_flat fun l _ => (formN_all _ _).append (all_flat fun e _ => edge_all e)))))
            obtain ⟨b, _, rfl⟩ := List.mem_map.1 hx
            cases b <;> decide
          · split
            · exact (formN_all _ _).append (formN_all _ _)
            · exact fun x hx => by simp at hx
/-- The bytes of a frame that was read are bytes. -/
theorem bytes_of_form {f : FrV} (h : MayF f) (hb : AllB (formF f)) : BytesF f := by
  by_cases hk : f.kind = 1
  · have h1 : AllB (restForm f) := fun x hx => hb x (by simp only [formF, List.mem_append]; exact Or.inr (Or.inr (Or.inr (Or.inr (Or.inr hx)))))
    rw [restForm_1 hk] at h1
    exact ⟨fun x hx => h1 x (by simp only [dataForm, List.mem_append]; exact Or.inr (Or.inr (Or.inr (Or.inr (Or.inl hx))))), fun x hx => h1 x (by simp only [dataForm, List.mem_append]; exact Or.inr (Or.inr (Or.inr (Or.inr (Or.inr (Or.inr hx))))))⟩
  · have e1 : (bareF f).co = [] := if_neg hk
    have e2 : (bareF f).pay = [] := if_neg hk
    rw [h.bare] at e1 e2
    exact ⟨by rw [e1]; exact fun x hx => by simp at hx, by rw [e2]; exact fun x hx => by simp at hx⟩
/-- How many edges. -/
def edgesN (hops : List (List (Int × Int))) : Nat := (hops.map List.length).sum
theorem len_const {α : Type} {g : α → List Nat} {c : Nat} : ∀ l : List α, (∀ a ∈ l, (g a).length = c) → (l.flatMap g).length = c * l.length
  | [], _ => rfl
  | a :: l, h => by
    rw [List.flatMap_cons, List.length_append, h a (by simp), len_const l fun x hx => h x (by simp [hx]), List.length_cons, Nat.mul_succ, Nat.add_comm]
theorem rank_len (r : Nat × Int) : (rankForm r).length = 9 := by simp [rankForm, formN_length]
theorem edge_len (e : Int × Int) : (edgeForm e).length = 2 := by simp [edgeForm, formN_length]
theorem hop_len (l : List (Int × Int)) : (hopForm l).length = 1 + 2 * l.length := by
  rw [hopForm, List.length_append, formN_length, len_const l fun e _ => edge_len e]
theorem hops_len : ∀ hops : List (List (Int × Int)), (hops.flatMap hopForm).length = hops.length + 2 * edgesN hops
  | [] => rfl
  | l :: r => by
    rw [List.flatMap_cons, List.length_append, hop_len, hops_len r, List.length_cons]
    simp only [edgesN, List.map_cons, List.sum_cons]
    omega
theorem edges_le {c : Nat} : ∀ hops : List (List (Int × Int)), (∀ l ∈ hops, l.length ≤ c) → edgesN hops ≤ c * hops.length
  | [], _ => by simp [edgesN]
  | l :: r, h => by
    have h1 := h l (by simp)
    have h2 := edges_le r fun x hx => h x (by simp [hx])
    simp only [edgesN, List.map_cons, List.sum_cons, List.length_cons, Nat.mul_succ] at *
    omega
/-- How many bytes a frame's form has. -/
def sizeF (f : FrV) : Nat := 19 + (if f.kind = 1 then 20 + f.co.length + f.pay.length else if f.kind = 2 then 18 + 9 * f.ranks.length else if f.kind = 3 then 16 else if f.kind = 4 then 8
  else if f.kind = 5 then 10 + f.up.length + (f.hops.length + 2 * edgesN f.hops) else if f.kind = 6 then 9 else 0)
theorem form_len (f : FrV) : (formF f).length = sizeF f := by
  have h : (formF f).length = 19 + (restForm f).length := by simp only [formF, List.length_append, formN_length]; omega
  rw [h, sizeF]
  congr 1
  unfold restForm
  split
  · simp only [dataForm, List.length_append, formN_length]; omega
  · split
    · simp only [feedForm, List.length_append, formN_length, len_const f.ranks fun r _ => rank_len r]; omega
    · split
      · simp only [List.length_append, formN_length]
      · split
        · simp only [formN_length]
        · split
          · simp only [topoForm, List.length_append, formN_length, List.length_map, hops_len]; omega
          · split
            · simp only [List.length_append, formN_length]
            · rfl
theorem size_le {f : FrV} (h : MayF f) : sizeF f ≤ 69000 := by
  unfold sizeF
  split
  · rename_i hk
    have := h.data hk; omega
  · split
    · rename_i hk
      have := rank_few _ _ (h.feed hk).1
      omega
    · split
      · omega
      · split
        · omega
        · split
          · rename_i hk
            obtain ⟨a1, a2, a3, a4, a5, a6, a7⟩ := (h.member hk).2.2
            have h1 := edges_le (c := 128) f.hops fun l hl => (a7 l hl).1
            have h2 : 128 * f.hops.length ≤ 128 * 4 := Nat.mul_le_mul_left _ a6
            omega
          · split <;> omega
theorem put_len {f : FrV} (h : MayF f) : (putV f).length = sizeF f + 4 := by rw [putV, if_pos h, seal_length, form_len]
theorem put_all {f : FrV} (h : BytesF f) : AllB (putV f) := by
  unfold putV
  split
  · exact (form_all h).append (le4_all _)
  · exact fun x hx => by simp at hx
/-- P12.4: what Put tells, taken, is the frame. -/
theorem take_put {f : FrV} (h : MayF f) : tkE (putV f) = 0 ∧ tkV (putV f) = f := by
  have hl := put_len h
  have h2 := size_le h
  have e : tkE (putV f) = 0 := by
    rw [tkE, if_neg (by omega), putV, if_pos h, if_pos (open_seal _).1, (open_seal _).2, read_form h]
    rfl
  refine ⟨e, ?_⟩
  rw [tkV, if_pos e, putV, if_pos h, (open_seal _).2, read_form h]
  rfl
theorem openVal_all {b : List Nat} (hb : AllB b) : AllB (openVal b) := by
  unfold openVal
  split
  · exact fun x hx => hb x (List.mem_of_mem_take hx)
  · exact fun x hx => by simp at hx
theorem take_some {b : List Nat} (h : tkE b = 0) : openErr b = 0 ∧ readF (openVal b) = some (tkV b) := by
  have h0 := h
  unfold tkE at h
  split at h
  · cases h
  · split at h
    · rename_i ho
      refine ⟨ho, ?_⟩
      split at h
      · rename_i hs
        obtain ⟨f, hf⟩ := Option.isSome_iff_exists.1 hs
        rw [tkV, if_pos h0, hf]; rfl
      · cases h
    · contradiction
/-- .. what Take tells, put, is the bytes. -/
theorem put_take {b : List Nat} (hb : AllB b) (h : tkE b = 0) : MayF (tkV b) ∧ BytesF (tkV b) ∧ putV (tkV b) = b := by
  obtain ⟨ho, hr⟩ := take_some h
  obtain ⟨hm, hf⟩ := read_inv (openVal_all hb) hr
  refine ⟨hm, bytes_of_form hm (hf ▸ openVal_all hb), ?_⟩
  rw [putV, if_pos hm, ← hf, openVal, if_pos ho]
  unfold openErr at ho
  split at ho
  · cases ho
  · split at ho
    · assumption
    · cases ho
theorem take_err {b : List Nat} (h : tkE b ≠ 0) : tkV b = noF := if_neg h
theorem take_long (b : List Nat) : tkE b = 3 ↔ 70000 < b.length := by
  constructor
  · intro h
    unfold tkE at h
    split at h
    · assumption
    · split at h
      · split at h <;> cases h
      · rcases open_cases b with e | e | e <;> rw [e] at h <;> cases h
  · intro h
    exact if_pos h
/-- .. unlike frames have unlike bytes. -/
theorem put_inj {f g : FrV} (hf : MayF f) (hg : MayF g) : putV f = putV g ↔ f = g := by
  constructor
  · intro h
    rw [← (take_put hf).2, ← (take_put hg).2, h]
  · intro h; rw [h]
/-- P12.5: bits turned within 32 in a row are found. -/
theorem take_turned {f : FrV} (h : MayF f) (hb : BytesF f) (bit turn : Nat) (ht : turn < 4294967296) (hbit : bit + 32 ≤ 8 * (putV f).length) :
    tkE (flipN (putV f) bit turn 32) = if turn = 0 then 0 else 20 := by
  by_cases h0 : turn = 0
  · rw [if_pos h0, h0, flip_none, (take_put h).1]
  · have hl := put_len h
    have h2 := size_le h
    have hf : openErr (flipN (sealN (formF f)) bit turn 32) = 20 := finds (formF f) bit turn (form_all hb) (by omega) h0 (by rw [hl] at hbit; rw [form_len]; exact hbit)
    have e : putV f = sealN (formF f) := if_pos h
    rw [if_neg h0, tkE, flip_length, if_neg (by omega), e, hf]
    rfl
/-- A frame's form goes on in no frame's form. -/
theorem form_front {f g : FrV} {t : List Nat} (hf : MayF f) (hg : MayF g) (h : formF f ++ t = formF g) : t = [] := by
  have h1 := parse_rd hf t
  have h2 := parse_rd hg []
  rw [List.append_nil, ← h, h1] at h2
  injection h2 with h2
  injection h2
theorem tk_seal {b : List Nat} (hl : b.length ≤ 69996) : tkE (sealN b) = if (readF b).isSome = true then 0 else 5 := by
  rw [tkE, if_neg (by rw [seal_length]; omega), if_pos (open_seal b).1, (open_seal b).2]
theorem tkV_seal {b : List Nat} (hl : b.length ≤ 69996) : tkV (sealN b) = (readF b).getD noF := by
  unfold tkV
  rw [tk_seal hl, (open_seal b).2]
  cases readF b <;> rfl
/-- With bytes behind, and each beginning: no frame. -/
theorem seal_more {b c : List Nat} (hb : AllB b) (hc : AllB c) (h1 : c ≠ []) (hl : b.length + c.length ≤ 69996) (h : tkE (sealN b) = 0) : tkE (sealN (b ++ c)) = 5 := by
  rw [tk_seal (by omega)] at h
  rw [tk_seal (by rw [List.length_append]; omega)]
  cases e : readF b with
  | none => rw [e] at h; cases h
  | some f =>
    obtain ⟨hm, hf⟩ := read_inv hb e
    cases e2 : readF (b ++ c) with
    | none => rfl
    | some g =>
      obtain ⟨hm2, hg⟩ := read_inv (hb.append hc) e2
      exact absurd (form_front hm hm2 (by rw [← hf, hg])) h1
theorem seal_less {b : List Nat} {k : Nat} (hb : AllB b) (hk : k < b.length) (hl : b.length ≤ 69996) (h : tkE (sealN b) = 0) : tkE (sealN (b.take k)) = 5 := by
  rw [tk_seal hl] at h
  rw [tk_seal (by rw [List.length_take]; omega)]
  cases e : readF b with
  | none => rw [e] at h; cases h
  | some f =>
    obtain ⟨hm, hf⟩ := read_inv hb e
    cases e2 : readF (b.take k) with
    | none => rfl
    | some g =>
      obtain ⟨hm2, hg⟩ := read_inv (fun x hx => hb x (List.mem_of_mem_take hx)) e2
      have := form_front (t := b.drop k) hm2 hm (by rw [← hf, ← hg, List.take_append_drop])
      have h2 := congrArg List.length this
      rw [List.length_drop] at h2
      simp at h2; omega
end Go.Proofs.YtgkihfemlbhioaaDoor.Fr
/- Frames plainly: ranks, place by place. -/
namespace Go.Proofs.YtgkihfemlbhioaaDoor.Fr
/-- One rank's bounds. -/
def RkB (g : Nat) (r : Nat × Int) : Prop := g ≤ r.1 ∧ r.1 < g + 16 ∧ r.1 < 1099511627776 ∧ 1 ≤ r.2 ∧ r.2 ≤ 255
theorem rank_iff (g : Nat) : ∀ (p : Option Nat) (l : List (Nat × Int)), RankOk g p l ↔ ∀ j r, l[j]? = some r → RkB g r ∧ (match j, p with | 0, some q => q < r.1 | 0, none => True | j + 1, _ => ∀ x, l[j]? = some x → x.1 < r.1)
  | p, [] => ⟨fun _ j r h => by simp at h, fun _ => trivial⟩
  | p, a :: l => by
    constructor
    · rintro ⟨⟨h1, h2, h3, h4, h5, h6⟩, h7⟩ j r hr
      cases j with
      | zero =>
        simp at hr; subst hr
        refine ⟨⟨h1, h2, h3, h4, h5⟩, ?_⟩
        cases p with
        | none => trivial
        | some q => exact h6
      | succ j =>
        rw [List.getElem?_cons_succ] at hr
        obtain ⟨b, c⟩ := (rank_iff g (some a.1) l).1 h7 j r hr
        refine ⟨b, fun x hx => ?_⟩
        cases j with
        | zero => simp at hx; subst hx; exact c
        | succ j => rw [List.getElem?_cons_succ] at hx; exact c x hx
    · intro h
      refine ⟨?_, (rank_iff g (some a.1) l).2 fun j r hr => ?_⟩
      · obtain ⟨⟨h1, h2, h3, h4, h5⟩, c⟩ := h 0 a rfl
        refine ⟨h1, h2, h3, h4, h5, ?_⟩
        cases p with
        | none => trivial
        | some q => exact c
      · obtain ⟨b, c⟩ := h (j + 1) r (by rw [List.getElem?_cons_succ]; exact hr)
        refine ⟨b, ?_⟩
        cases j with
        | zero => exact c a rfl
        | succ j => exact fun x hx => c x (by rw [List.getElem?_cons_succ]; exact hx)
theorem ranks_iff (g : Nat) (l : List (Nat × Int)) : RankOk g none l ↔ ∀ j r, l[j]? = some r → RkB g r ∧ ∀ x, 0 < j → l[j - 1]? = some x → x.1 < r.1 := by
  rw [rank_iff]
  constructor
  · intro h j r hr
    obtain ⟨b, c⟩ := h j r hr
    refine ⟨b, fun x hj hx => ?_⟩
    obtain ⟨k, rfl⟩ : ∃ k, j = k + 1 := ⟨j - 1, by omega⟩
    rw [Nat.add_sub_cancel] at hx
    exact c x hx
  · intro h j r hr
    obtain ⟨b, c⟩ := h j r hr
    refine ⟨b, ?_⟩
    cases j with
    | zero => trivial
    | succ j => exact fun x hx => c x (by omega) (by rw [Nat.add_sub_cancel]; exact hx)
end Go.Proofs.YtgkihfemlbhioaaDoor.Fr
