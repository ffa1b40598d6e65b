/- Layer 9, plainly: symbols of a chunk, a chunk of symbols, the chunks of a stream. -/
import Derived.Test.YtcafofffgmaepaaForm
namespace Go.Proofs.Ytcafofffgmaepaa
set_option linter.unusedVariables false
/-- A generation may be of g and s. -/
def MayG (g s : Int) : Prop := 1 ≤ g ∧ g ≤ 255 ∧ 1 ≤ s ∧ s ≤ 65535 ∧ 5 ≤ g * s
instance (g s : Int) : Decidable (MayG g s) := by unfold MayG; infer_instance
/-- All bytes of a chunk's symbols. -/
def allN (G : Nat) (xs : List Nat) : List Nat := formN 4 xs.length ++ xs ++ List.replicate (G - 4 - xs.length) 0
def cutN (s i : Nat) (ys : List Nat) : List Nat := (ys.drop (i * s)).take s
def cutsN (g s : Nat) (ys : List Nat) : List (List Nat) := (List.range g).map fun i => cutN s i ys
def layN (g s : Nat) (xs : List Nat) : List (List Nat) := cutsN g s (allN (g * s) xs)
theorem allN_len {G : Nat} {xs : List Nat} (h : xs.length + 4 ≤ G) : (allN G xs).length = G := by
  simp [allN, formN_length]; omega
theorem allN_all {G : Nat} {xs : List Nat} (h : AllB xs) : AllB (allN G xs) := ((formN_all _ _).append h).append (AllB.zeros _)
theorem cutsN_len (g s : Nat) (ys : List Nat) : (cutsN g s ys).length = g := by simp [cutsN]
theorem cutsN_succ (g s : Nat) (ys : List Nat) : cutsN (g + 1) s ys = cutsN g s ys ++ [cutN s g ys] := by simp [cutsN, List.range_succ]
theorem cutN_len {g s i : Nat} {ys : List Nat} (h : ys.length = g * s) (hi : i < g) : (cutN s i ys).length = s := by
  have : (i + 1) * s ≤ g * s := Nat.mul_le_mul_right s hi
  rw [Nat.add_mul, Nat.one_mul] at this
  simp [cutN]; omega
theorem cutN_all {s i : Nat} {ys : List Nat} (h : AllB ys) : AllB (cutN s i ys) := fun x hx => h x (List.mem_of_mem_drop (List.mem_of_mem_take hx))
theorem cutsN_flat (s : Nat) (ys : List Nat) : ∀ g, (cutsN g s ys).flatten = ys.take (g * s)
  | 0 => by simp [cutsN]
  | g + 1 => by rw [cutsN_succ, List.flatten_append, cutsN_flat s ys g, Nat.add_mul, Nat.one_mul, List.take_add]; simp [cutN]
theorem flat_cut {s : Nat} : ∀ {R : List (List Nat)}, (∀ r ∈ R, r.length = s) → R.flatten.length = R.length * s
  | [], _ => by simp
  | r :: R, h => by
    rw [List.flatten_cons, List.length_append, flat_cut (R := R) fun x hx => h x (by simp [hx]), h r (by simp), List.length_cons, Nat.add_mul, Nat.one_mul, Nat.add_comm]
theorem flat_at {s : Nat} : ∀ {R : List (List Nat)}, (∀ r ∈ R, r.length = s) → cutsN R.length s R.flatten = R := by
  intro R h
  have hl := flat_cut h
  refine List.ext_getElem (by rw [cutsN_len]) fun i h1 h2 => ?_
  simp only [cutsN, List.getElem_map, List.getElem_range]
  have key : ∀ (R : List (List Nat)), (∀ r ∈ R, r.length = s) → ∀ (i : Nat) (h2 : i < R.length), (R.flatten.drop (i * s)).take s = R[i] := by
    intro R
    induction R with
    | nil => intro _ i h2; simp at h2
    | cons r R ih =>
      intro h i h2
      have hr : r.length = s := h r (by simp)
      cases i with
      | zero =>
        rw [Nat.zero_mul, List.drop_zero, List.flatten_cons, List.getElem_cons_zero, ← hr, List.take_left]
      | succ i =>
        rw [List.flatten_cons, List.getElem_cons_succ, Nat.add_mul, Nat.one_mul, Nat.add_comm (i * s) s, ← List.drop_drop, List.drop_left' hr]
        exact ih (fun x hx => h x (by simp [hx])) i (by simpa using h2)
  exact key R h i h2
/-- What symbols tell: their error, their chunk. -/
def headN (ys : List Nat) : Nat := valN (ys.take 4)
def okSym (g s : Nat) (R : List (List Nat)) : Prop := R.length = g ∧ ∀ r ∈ R, r.length = s
def okForm (G : Nat) (ys : List Nat) : Prop := 1 ≤ headN ys ∧ headN ys ≤ G - 4 ∧ ∀ x ∈ ys.drop (4 + headN ys), x = 0
instance (g s : Nat) (R : List (List Nat)) : Decidable (okSym g s R) := by unfold okSym; infer_instance
instance (G : Nat) (ys : List Nat) : Decidable (okForm G ys) := by unfold okForm; infer_instance
def takeE (g s : Nat) (R : List (List Nat)) : Int := if ¬ okSym g s R then 21 else if ¬ okForm (g * s) R.flatten then 5 else 0
def takeV (g s : Nat) (R : List (List Nat)) : List Nat := if takeE g s R = 0 then (R.flatten.drop 4).take (headN R.flatten) else []
/-- Of a chunk's symbols, its chunk. -/
theorem take_lay {g s : Nat} {xs : List Nat} (h0 : 1 ≤ xs.length) (h1 : xs.length + 4 ≤ g * s) (h2 : g * s < 4294967296) : takeE g s (layN g s xs) = 0 ∧ takeV g s (layN g s xs) = xs := by
  have hl := allN_len h1
  have hok : okSym g s (layN g s xs) := ⟨cutsN_len _ _ _, fun r hr => by
    obtain ⟨i, hi, rfl⟩ := List.mem_map.1 hr
    exact cutN_len hl (List.mem_range.1 hi)⟩
  have hf : (layN g s xs).flatten = allN (g * s) xs := by rw [layN, cutsN_flat, List.take_of_length_le (by rw [hl]; exact Nat.le_refl _)]
  have hh : headN (allN (g * s) xs) = xs.length := by
    rw [headN, allN, List.append_assoc, List.take_left' (formN_length 4 _), valN_form]
    exact Nat.mod_eq_of_lt (by omega)
  have hd : (allN (g * s) xs).drop 4 = xs ++ List.replicate (g * s - 4 - xs.length) 0 := by
    rw [allN, List.append_assoc, List.drop_left' (formN_length 4 _)]
  have hfo : okForm (g * s) (allN (g * s) xs) := by
    refine ⟨by rw [hh]; exact h0, by rw [hh]; omega, fun x hx => ?_⟩
    rw [hh, ← List.drop_drop, hd, List.drop_left' rfl] at hx
    exact (List.mem_replicate.1 hx).2
  have he : takeE g s (layN g s xs) = 0 := by rw [takeE, if_neg (not_not_intro hok), hf, if_neg (not_not_intro hfo)]
  refine ⟨he, ?_⟩
  rw [takeV, if_pos he, hf, hh, hd, List.take_left' rfl]
/-- Of symbols that are a chunk's, the symbols again. -/
theorem lay_take {g s : Nat} {R : List (List Nat)} (ha : ∀ r ∈ R, AllB r) (h5 : 5 ≤ g * s) (he : takeE g s R = 0) : 1 ≤ (takeV g s R).length ∧ (takeV g s R).length + 4 ≤ g * s ∧ layN g s (takeV g s R) = R := by
  have hok : okSym g s R := by
    refine Classical.byContradiction fun h => ?_
    rw [takeE, if_pos h] at he
    exact absurd he (by decide)
  have hfo : okForm (g * s) R.flatten := by
    refine Classical.byContradiction fun h => ?_
    rw [takeE, if_neg (not_not_intro hok), if_pos h] at he
    exact absurd he (by decide)
  have hl := flat_cut hok.2
  rw [hok.1] at hl
  have hv : takeV g s R = (R.flatten.drop 4).take (headN R.flatten) := by rw [takeV, if_pos he]
  obtain ⟨f1, f2, f3⟩ := hfo
  have hvl : (takeV g s R).length = headN R.flatten := by rw [hv, List.length_take, List.length_drop, hl]; omega
  refine ⟨by omega, by omega, ?_⟩
  have hall : allN (g * s) (takeV g s R) = R.flatten := by
    have hfl : AllB R.flatten := fun x hx => by
      obtain ⟨r, hr, hx⟩ := List.mem_flatten.1 hx
      exact ha r hr x hx
    have h4 : (R.flatten.take 4).length = 4 := by rw [List.length_take, hl]; omega
    have e1 : formN 4 (takeV g s R).length = R.flatten.take 4 := by
      rw [hvl, headN]
      have := form_val (R.flatten.take 4) (hfl.take 4)
      rwa [h4] at this
    have e2 : List.replicate (g * s - 4 - (takeV g s R).length) 0 = R.flatten.drop (4 + headN R.flatten) := by
      refine (List.eq_replicate_iff.2 ⟨?_, f3⟩).symm
      rw [List.length_drop, hl, hvl]; omega
    rw [allN, e1, e2, hv, ← List.drop_drop, List.append_assoc, List.take_append_drop, List.take_append_drop]
  rw [layN, hall]
  conv => lhs; rw [← hok.1]
  exact flat_at hok.2
/-- The chunks behind t places, and where the open bytes begin. -/
def isEnd (room : Nat) (cuts : List Nat) (f t : Nat) : Prop := t - f = room ∨ f < t ∧ t ∈ cuts
instance (room : Nat) (cuts : List Nat) (f t : Nat) : Decidable (isEnd room cuts f t) := by unfold isEnd; infer_instance
def pieceN (xs : List Nat) (f t : Nat) : List Nat := (xs.drop f).take (t - f)
def chunkN (room : Nat) (cuts xs : List Nat) : Nat → List (List Nat) × Nat
  | 0 => ([], 0)
  | t + 1 => if isEnd room cuts (chunkN room cuts xs t).2 t then ((chunkN room cuts xs t).1 ++ [pieceN xs (chunkN room cuts xs t).2 t], t) else chunkN room cuts xs t
section
variable {room : Nat} {cuts xs : List Nat}
theorem chunkN_succ (t : Nat) : chunkN room cuts xs (t + 1) = if isEnd room cuts (chunkN room cuts xs t).2 t then ((chunkN room cuts xs t).1 ++ [pieceN xs (chunkN room cuts xs t).2 t], t) else chunkN room cuts xs t := rfl
theorem chunk_from (h1 : 1 ≤ room) : ∀ t, (chunkN room cuts xs t).2 ≤ t - 1 ∧ t ≤ (chunkN room cuts xs t).2 + room
  | 0 => ⟨Nat.zero_le _, Nat.zero_le _⟩
  | t + 1 => by
    obtain ⟨a, b⟩ := chunk_from h1 t
    rw [chunkN_succ]
    by_cases h : isEnd room cuts (chunkN room cuts xs t).2 t
    · rw [if_pos h]
      exact ⟨by show t ≤ t; exact Nat.le_refl _, by show t + 1 ≤ t + room; omega⟩
    · rw [if_neg h]
      have hn : ¬ t - (chunkN room cuts xs t).2 = room := fun e => h (Or.inl e)
      exact ⟨by omega, by omega⟩
theorem piece_len {f t : Nat} (hf : f ≤ t) (ht : t ≤ xs.length) : (pieceN xs f t).length = t - f := by
  rw [pieceN, List.length_take, List.length_drop]; omega
/-- Chunks and what is open are the stream. -/
theorem chunk_flat (h1 : 1 ≤ room) : ∀ t, t ≤ xs.length + 1 → (chunkN room cuts xs t).1.flatten = xs.take (chunkN room cuts xs t).2 ∧ ∀ r ∈ (chunkN room cuts xs t).1, 1 ≤ r.length ∧ r.length ≤ room
  | 0, _ => ⟨by simp [chunkN], fun r hr => by simp [chunkN] at hr⟩
  | t + 1, h => by
    obtain ⟨i1, i2⟩ := chunk_flat h1 t (by omega)
    obtain ⟨a, b⟩ := chunk_from (cuts := cuts) (xs := xs) h1 t
    rw [chunkN_succ]
    by_cases he : isEnd room cuts (chunkN room cuts xs t).2 t
    · rw [if_pos he]
      have hf : (chunkN room cuts xs t).2 < t := by
        rcases he with e | e
        · omega
        · exact e.1
      have hpl := piece_len (xs := xs) (Nat.le_of_lt hf) (by omega)
      refine ⟨?_, fun r hr => ?_⟩
      · show ((chunkN room cuts xs t).1 ++ [pieceN xs (chunkN room cuts xs t).2 t]).flatten = xs.take t
        rw [List.flatten_append, i1]
        conv => rhs; rw [show t = (chunkN room cuts xs t).2 + (t - (chunkN room cuts xs t).2) by omega, List.take_add]
        simp [pieceN]
      · rcases List.mem_append.1 hr with hr | hr
        · exact i2 r hr
        · rw [List.mem_singleton] at hr; subst hr
          rw [hpl]; omega
    · rw [if_neg he]; exact ⟨i1, i2⟩
/-- A cut is a chunk's end. -/
theorem chunk_cut (h1 : 1 ≤ room) {c : Nat} (hc : c ∈ cuts) : c = 0 ∨ (chunkN room cuts xs (c + 1)).2 = c ∧ ∃ l, (chunkN room cuts xs (c + 1)).1 = l ++ [pieceN xs (chunkN room cuts xs c).2 c] := by
  rcases Nat.eq_zero_or_pos c with e | e
  · exact Or.inl e
  · right
    obtain ⟨a, b⟩ := chunk_from (cuts := cuts) (xs := xs) h1 c
    have he : isEnd room cuts (chunkN room cuts xs c).2 c := Or.inr ⟨by omega, hc⟩
    rw [chunkN_succ, if_pos he]
    exact ⟨rfl, _, rfl⟩
/-- Later places only add chunks. -/
theorem chunk_more (t : Nat) : ∀ d, ∃ l, (chunkN room cuts xs (t + d)).1 = (chunkN room cuts xs t).1 ++ l
  | 0 => ⟨[], by simp⟩
  | d + 1 => by
    obtain ⟨l, e⟩ := chunk_more t d
    rw [← Nat.add_assoc, chunkN_succ]
    by_cases h : isEnd room cuts (chunkN room cuts xs (t + d)).2 (t + d)
    · rw [if_pos h]; exact ⟨l ++ [_], by show _ ++ _ = _; rw [e, List.append_assoc]⟩
    · rw [if_neg h]; exact ⟨l, e⟩
/-- Bytes behind the places change nothing. -/
theorem chunk_behind (ys : List Nat) : ∀ t, t ≤ xs.length + 1 → chunkN room cuts (xs ++ ys) t = chunkN room cuts xs t
  | 0, _ => rfl
  | t + 1, h => by
    rw [chunkN_succ, chunkN_succ, chunk_behind ys t (by omega)]
    have e : pieceN (xs ++ ys) (chunkN room cuts xs t).2 t = pieceN xs (chunkN room cuts xs t).2 t := by
      rw [pieceN, pieceN]
      rcases Nat.le_total (chunkN room cuts xs t).2 xs.length with h2 | h2
      · rw [List.drop_append_of_le_length h2, List.take_append_of_le_length (by rw [List.length_drop]; omega)]
      · have : t - (chunkN room cuts xs t).2 = 0 := by omega
        rw [this, List.take_zero, List.take_zero]
    rw [e]
/-- Which bytes are cut hangs on the cuts' places alone. -/
theorem chunk_cuts {cuts' : List Nat} (h : ∀ x, x ∈ cuts ↔ x ∈ cuts') : ∀ t, chunkN room cuts xs t = chunkN room cuts' xs t
  | 0 => rfl
  | t + 1 => by
    rw [chunkN_succ, chunkN_succ, chunk_cuts h t]
    have e : isEnd room cuts (chunkN room cuts' xs t).2 t ↔ isEnd room cuts' (chunkN room cuts' xs t).2 t := by
      unfold isEnd; rw [h t]
    by_cases h2 : isEnd room cuts (chunkN room cuts' xs t).2 t
    · rw [if_pos h2, if_pos (e.1 h2)]
    · rw [if_neg h2, if_neg (fun x => h2 (e.2 x))]
end
/-- A cut parts a stream for good. -/
theorem chunk_parts {room : Nat} (h1 : 1 ≤ room) (xs ys : List Nat) : ∀ t, t ≤ ys.length →
    chunkN room [xs.length] (xs ++ ys) (xs.length + 1 + t) = ((chunkN room [xs.length] xs (xs.length + 1)).1 ++ (chunkN room [] ys (t + 1)).1, xs.length + (chunkN room [] ys (t + 1)).2)
  | 0, _ => by
    rw [Nat.add_zero, chunk_behind ys _ (Nat.le_refl _)]
    have hz : chunkN room [] ys (0 + 1) = ([], 0) := by
      rw [chunkN_succ, if_neg]
      · rfl
      · intro h
        rcases h with h | h
        · have h : 0 - 0 = room := h
          omega
        · simp at h
    rw [hz, List.append_nil]
    refine Prod.ext rfl ?_
    show (chunkN room [xs.length] xs (xs.length + 1)).2 = xs.length
    rcases chunk_cut (room := room) (cuts := [xs.length]) (xs := xs) h1 (List.mem_singleton.2 rfl) with h | h
    · have := (chunk_from (cuts := [xs.length]) (xs := xs) h1 (xs.length + 1)).1
      omega
    · exact h.1
  | t + 1, h => by
    have ih := chunk_parts h1 xs ys t (by omega)
    rw [show xs.length + 1 + (t + 1) = (xs.length + 1 + t) + 1 by omega, chunkN_succ, ih, chunkN_succ (t + 1)]
    obtain ⟨a, b⟩ := chunk_from (cuts := []) (xs := ys) h1 (t + 1)
    generalize hq : chunkN room [] ys (t + 1) = q at *
    obtain ⟨o, f⟩ := q
    have hf : f ≤ t := a
    have e : isEnd room [xs.length] (xs.length + f) (xs.length + 1 + t) ↔ isEnd room [] f (t + 1) := by
      unfold isEnd
      rw [List.mem_singleton]
      constructor
      · rintro (h | h)
        · exact Or.inl (by omega)
        · omega
      · rintro (h | h)
        · exact Or.inl (by omega)
        · simp at h
    show (if isEnd room [xs.length] (xs.length + f) (xs.length + 1 + t) then _ else _) = _
    by_cases h2 : isEnd room [] f (t + 1)
    · rw [if_pos (e.2 h2), if_pos h2]
      have hp : pieceN (xs ++ ys) (xs.length + f) (xs.length + 1 + t) = pieceN ys f (t + 1) := by
        rw [pieceN, pieceN, ← List.drop_drop, List.drop_left' rfl, show xs.length + 1 + t - (xs.length + f) = t + 1 - f by omega]
      refine Prod.ext ?_ ?_
      · show _ ++ [pieceN (xs ++ ys) (xs.length + f) (xs.length + 1 + t)] = _ ++ (o ++ [pieceN ys f (t + 1)])
        rw [hp, List.append_assoc]
      · show xs.length + 1 + t = xs.length + (t + 1)
        omega
    · rw [if_neg (fun x => h2 (e.1 x)), if_neg h2]
end Go.Proofs.Ytcafofffgmaepaa
