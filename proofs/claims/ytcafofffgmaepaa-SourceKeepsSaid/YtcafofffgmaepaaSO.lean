/- Layer 13, plainly: a stream, its cuts, its generations. -/
import Derived.Test.YtcafofffgmaepaaPdpl
namespace Go.Proofs.Ytcafofffgmaepaa
set_option linter.unusedVariables false
/-- The generations' bytes; where the open ones begin. -/
def gensN (room : Nat) (cuts xs : List Nat) : List (List Nat) := (chunkN room cuts xs (xs.length + 1)).1
def fromN (room : Nat) (cuts xs : List Nat) : Nat := (chunkN room cuts xs (xs.length + 1)).2
def openN (room : Nat) (cuts xs : List Nat) : List Nat := xs.drop (fromN room cuts xs)
section
variable {room : Nat} {cuts xs : List Nat}
/-- Cuts from the place on change nothing ahead of it. -/
theorem chunk_ahead {cuts' : List Nat} : ∀ t, (∀ x, x < t → (x ∈ cuts ↔ x ∈ cuts')) → chunkN room cuts xs t = chunkN room cuts' xs t
  | 0, _ => rfl
  | t + 1, h => by
    rw [chunkN_succ, chunkN_succ, chunk_ahead t fun x hx => h x (by omega)]
    have e : isEnd room cuts (chunkN room cuts' xs t).2 t ↔ isEnd room cuts' (chunkN room cuts' xs t).2 t := by
      unfold isEnd; rw [h t (by omega)]
    by_cases h2 : isEnd room cuts (chunkN room cuts' xs t).2 t
    · rw [if_pos h2, if_pos (e.1 h2)]
    · rw [if_neg h2, if_neg (fun x => h2 (e.2 x))]
theorem from_le (h1 : 1 ≤ room) : fromN room cuts xs ≤ xs.length := by
  have := (chunk_from (cuts := cuts) (xs := xs) h1 (xs.length + 1)).1
  unfold fromN; omega
/-- Generations and what is open are the stream. -/
theorem gens_flat (h1 : 1 ≤ room) : (gensN room cuts xs).flatten ++ openN room cuts xs = xs := by
  rw [gensN, openN, fromN, (chunk_flat h1 _ (Nat.le_refl _)).1, List.take_append_drop]
/-- Each has something, and no more than there is room for. -/
theorem gens_each (h1 : 1 ≤ room) : ∀ r ∈ gensN room cuts xs, 1 ≤ r.length ∧ r.length ≤ room := (chunk_flat h1 _ (Nat.le_refl _)).2
/-- More bytes: what was a generation stays it. -/
theorem gens_more (ys : List Nat) : ∃ l, gensN room cuts (xs ++ ys) = gensN room cuts xs ++ l := by
  obtain ⟨l, e⟩ := chunk_more (room := room) (cuts := cuts) (xs := xs ++ ys) (xs.length + 1) ys.length
  refine ⟨l, ?_⟩
  rw [gensN, gensN, List.length_append, show xs.length + ys.length + 1 = xs.length + 1 + ys.length by omega, e, chunk_behind ys _ (Nat.le_refl _)]
/-- A cut at the end: what is open is the last generation, and nothing is open. -/
theorem gens_cut (h1 : 1 ≤ room) (ho : openN room cuts xs ≠ []) : gensN room (cuts ++ [xs.length]) xs = gensN room cuts xs ++ [openN room cuts xs] ∧ openN room (cuts ++ [xs.length]) xs = [] := by
  have hf := from_le (cuts := cuts) (xs := xs) h1
  have hlt : fromN room cuts xs < xs.length := by
    rcases Nat.lt_or_ge (fromN room cuts xs) xs.length with h | h
    · exact h
    · exact absurd (by rw [openN, List.drop_eq_nil_iff]; exact h) ho
  have ha : chunkN room (cuts ++ [xs.length]) xs xs.length = chunkN room cuts xs xs.length := (chunk_ahead _ fun x hx => by simp; omega).symm
  have hs := chunkN_succ (room := room) (cuts := cuts) (xs := xs) xs.length
  have hn : ¬ isEnd room cuts (chunkN room cuts xs xs.length).2 xs.length := fun h => by
    rw [if_pos h] at hs
    have : fromN room cuts xs = xs.length := by rw [fromN, hs]
    omega
  rw [if_neg hn] at hs
  have hfr : (chunkN room cuts xs xs.length).2 = fromN room cuts xs := by rw [fromN, hs]
  have he : isEnd room (cuts ++ [xs.length]) (chunkN room cuts xs xs.length).2 xs.length := Or.inr ⟨by rw [hfr]; exact hlt, by simp⟩
  have hs2 := chunkN_succ (room := room) (cuts := cuts ++ [xs.length]) (xs := xs) xs.length
  rw [ha, if_pos he] at hs2
  refine ⟨?_, ?_⟩
  · rw [gensN, gensN, hs2, hs, hfr]
    congr 1
    rw [pieceN, openN]
    rw [List.take_of_length_le (by rw [List.length_drop]; omega)]
  · rw [openN, fromN, hs2, List.drop_length]
/-- A cut that lies at the end of what there is stays a cut when more comes; nothing ahead of it changes. -/
theorem gens_stay (ys : List Nat) (c : List Nat) (hc : ∀ x ∈ c, xs.length ≤ x) : ∃ l, gensN room (cuts ++ c) (xs ++ ys) = (chunkN room cuts xs xs.length).1 ++ l := by
  obtain ⟨l, e⟩ := chunk_more (room := room) (cuts := cuts ++ c) (xs := xs ++ ys) xs.length (ys.length + 1)
  refine ⟨l, ?_⟩
  rw [gensN, List.length_append, show xs.length + ys.length + 1 = xs.length + (ys.length + 1) by omega, e, chunk_behind ys _ (by omega)]
  rw [chunk_ahead (cuts' := cuts) xs.length fun x hx => by
    simp only [List.mem_append]
    constructor
    · rintro (h | h)
      · exact h
      · have := hc x h; omega
    · exact Or.inl]
/-- How many there are with one for what would be open. -/
def wouldN (room : Nat) (cuts xs : List Nat) : Nat := (gensN room cuts xs).length + (if openN room cuts xs = [] then 0 else 1)
theorem open_len (h1 : 1 ≤ room) : (openN room cuts xs).length ≤ room := by
  have := (chunk_from (cuts := cuts) (xs := xs) h1 (xs.length + 1)).2
  rw [openN, List.length_drop, fromN]; omega
end
end Go.Proofs.Ytcafofffgmaepaa
/- Layer 13, plainly: the places where generations end, and what a Submit adds. -/
namespace Go.Proofs.Ytcafofffgmaepaa
set_option linter.unusedVariables false
/-- Where chunk i begins. -/
def startN (M : List (List Nat)) (i : Nat) : Nat := (M.take i).flatten.length
theorem startN_zero (M : List (List Nat)) : startN M 0 = 0 := by simp [startN]
theorem startN_succ {M : List (List Nat)} {i : Nat} {r : List Nat} (h : M[i]? = some r) : startN M (i + 1) = startN M i + r.length := by
  rw [startN, List.take_add_one, h, List.flatten_append, List.length_append, startN]; simp
theorem startN_all (M : List (List Nat)) : startN M M.length = M.flatten.length := by rw [startN, List.take_length]
theorem startN_le (M : List (List Nat)) (i : Nat) : startN M i ≤ M.flatten.length := by
  conv => rhs; rw [← List.take_append_drop i M, List.flatten_append, List.length_append]
  rw [startN]; omega
theorem startN_app (M N : List (List Nat)) {i : Nat} (h : i ≤ M.length) : startN (M ++ N) i = startN M i := by
  rw [startN, startN, List.take_append_of_le_length h]
/-- A chunk of the stream, by its place. -/
theorem startN_piece {M : List (List Nat)} {xs : List Nat} {f i : Nat} {r : List Nat} (hf : M.flatten = xs.take f) (hl : f ≤ xs.length) (h : M[i]? = some r) : r = pieceN xs (startN M i) (startN M i + r.length) ∧ startN M i + r.length ≤ f := by
  have hfl : M.flatten.length = f := by rw [hf, List.length_take]; omega
  have hi : i < M.length := by
    rcases Nat.lt_or_ge i M.length with h1 | h1
    · exact h1
    · rw [List.getElem?_eq_none h1] at h; cases h
  have hle : startN M i + r.length ≤ f := by rw [← startN_succ h, ← hfl]; exact startN_le M (i + 1)
  refine ⟨?_, hle⟩
  have hd : M.drop i = r :: M.drop (i + 1) := by
    rw [List.drop_eq_getElem_cons hi]
    rw [List.getElem?_eq_getElem hi] at h
    injection h with h
    rw [h]
  have e1 : (xs.take f).drop (startN M i) = r ++ (M.drop (i + 1)).flatten := by
    have e0 : M.flatten = (M.take i).flatten ++ (M.drop i).flatten := by rw [← List.flatten_append, List.take_append_drop]
    rw [← hf, e0, List.drop_left' (show (M.take i).flatten.length = startN M i from rfl), hd, List.flatten_cons]
  have e2 : ((xs.take f).drop (startN M i)).take r.length = r := by rw [e1, List.take_left' rfl]
  rw [pieceN, Nat.add_sub_cancel_left]
  conv => lhs; rw [← e2]
  rw [List.drop_take, List.take_take, Nat.min_eq_left (by omega)]
/-- The ends of chunks. -/
def endsN (M : List (List Nat)) : List Nat := (List.range M.length).map fun i => startN M (i + 1)
theorem endsN_len (M : List (List Nat)) : (endsN M).length = M.length := by simp [endsN]
theorem endsN_nil : endsN [] = [] := rfl
theorem endsN_get {M : List (List Nat)} {i : Nat} (h : i < M.length) : (endsN M)[i]? = some (startN M (i + 1)) := by
  rw [endsN, List.getElem?_map, List.getElem?_range h]; rfl
theorem endsN_at {M : List (List Nat)} {i : Nat} (h : i < M.length) : (endsN M).getD i 0 = startN M (i + 1) := by
  rw [List.getD_eq_getElem?_getD, endsN_get h]; rfl
theorem endsN_more (M : List (List Nat)) (r : List Nat) : endsN (M ++ [r]) = endsN M ++ [M.flatten.length + r.length] := by
  rw [endsN, endsN, List.length_append, show M.length + [r].length = M.length + 1 from rfl, List.range_succ, List.map_append]
  congr 1
  · refine List.map_congr_left fun i hi => ?_
    have := List.mem_range.1 hi
    exact startN_app M [r] (by omega)
  · show [startN (M ++ [r]) (M.length + 1)] = _
    rw [startN_succ (r := r) (by simp), startN_app M [r] (Nat.le_refl _), startN_all]
theorem endsN_last (M : List (List Nat)) : startN M M.length = M.flatten.length := startN_all M
section
variable {room : Nat} {cs xs : List Nat}
theorem chunk_mono (t : Nat) (h1 : 1 ≤ room) : ∀ d, (chunkN room cs xs t).2 ≤ (chunkN room cs xs (t + d)).2
  | 0 => Nat.le_refl _
  | d + 1 => by
    have ih := chunk_mono t h1 d
    rw [← Nat.add_assoc, chunkN_succ]
    split
    · have := (chunk_from (cuts := cs) (xs := xs) h1 (t + d)).1
      show _ ≤ t + d
      omega
    · exact ih
/-- If no chunk ended since, nothing has changed. -/
theorem chunk_still (t : Nat) : ∀ d, (chunkN room cs xs (t + d)).2 < t → chunkN room cs xs (t + d) = chunkN room cs xs t
  | 0, _ => rfl
  | d + 1, h => by
    rw [← Nat.add_assoc] at h ⊢
    rw [chunkN_succ] at h ⊢
    split at h
    · rename_i e
      have h : t + d < t := h
      omega
    · rename_i e
      rw [if_neg e]
      exact chunk_still t d h
theorem gens_from (h1 : 1 ≤ room) : chunkN room cs xs (fromN room cs xs + 1) = (gensN room cs xs, fromN room cs xs) := by
  have hle := from_le (cuts := cs) (xs := xs) h1
  have := chunk_still (room := room) (cs := cs) (xs := xs) (fromN room cs xs + 1) (xs.length - fromN room cs xs)
  rw [show fromN room cs xs + 1 + (xs.length - fromN room cs xs) = xs.length + 1 by omega] at this
  exact (this (Nat.lt_succ_self _)).symm
theorem gens_flen (h1 : 1 ≤ room) : (gensN room cs xs).flatten.length = fromN room cs xs := by
  rw [gensN, (chunk_flat h1 _ (Nat.le_refl _)).1, List.length_take]
  have := from_le (cuts := cs) (xs := xs) h1
  rw [fromN] at this ⊢; omega
theorem gens_take (h1 : 1 ≤ room) : (gensN room cs xs).flatten = xs.take (fromN room cs xs) := (chunk_flat h1 _ (Nat.le_refl _)).1
theorem open_flen : (openN room cs xs).length = xs.length - fromN room cs xs := by rw [openN, List.length_drop]
theorem open_lt (h1 : 1 ≤ room) : (openN room cs xs).length < room := by
  have := (chunk_from (cuts := cs) (xs := xs) h1 (xs.length + 1)).2
  rw [open_flen, fromN]; omega
/-- A cut lies where a generation ends. -/
theorem cut_le (h1 : 1 ≤ room) (hc : ∀ c ∈ cs, c ≤ xs.length) : ∀ c ∈ cs, c ≤ fromN room cs xs := by
  intro c h
  rcases chunk_cut (xs := xs) h1 h with h0 | ⟨h2, _⟩
  · omega
  · have := chunk_mono (cs := cs) (xs := xs) (c + 1) h1 (xs.length - c)
    rw [h2, show c + 1 + (xs.length - c) = xs.length + 1 by have := hc c h; omega] at this
    exact this
theorem chunk_wait (f' : Nat) (hc : ∀ c ∈ cs, c ≤ f') (t : Nat) (ht : f' < t) (hf : (chunkN room cs xs t).2 = f') : ∀ d, t + d ≤ f' + room → chunkN room cs xs (t + d) = chunkN room cs xs t
  | 0, _ => rfl
  | d + 1, h => by
    have ih := chunk_wait f' hc t ht hf d (by omega)
    rw [← Nat.add_assoc, chunkN_succ, ih, hf, if_neg]
    rintro (e | ⟨_, e⟩)
    · omega
    · have := hc _ e; omega
theorem chunk_fill (f' : Nat) (hc : ∀ c ∈ cs, c ≤ f') (h1 : 1 ≤ room) (M : List (List Nat)) (hf : chunkN room cs xs (f' + 1) = (M, f')) : chunkN room cs xs (f' + room + 1) = (M ++ [pieceN xs f' (f' + room)], f' + room) := by
  have hw := chunk_wait (xs := xs) f' hc (f' + 1) (by omega) (by rw [hf]) (room - 1) (by omega)
  rw [show f' + 1 + (room - 1) = f' + room by omega, hf] at hw
  rw [chunkN_succ, hw]
  exact if_pos (Or.inl (by show f' + room - f' = room; omega))
end
/-- Full pieces behind place f. -/
def fullN (room : Nat) (xs : List Nat) (f j : Nat) : List (List Nat) := (List.range j).map fun i => pieceN xs (f + i * room) (f + i * room + room)
theorem fullN_succ (room : Nat) (xs : List Nat) (f j : Nat) : fullN room xs f (j + 1) = fullN room xs f j ++ [pieceN xs (f + j * room) (f + j * room + room)] := by
  rw [fullN, fullN, List.range_succ, List.map_append]; rfl
theorem fullN_len (room : Nat) (xs : List Nat) (f j : Nat) : (fullN room xs f j).length = j := by simp [fullN]
theorem fullN_flen {room : Nat} {xs : List Nat} {f : Nat} : ∀ j, f + j * room ≤ xs.length → (fullN room xs f j).flatten.length = j * room
  | 0, _ => by simp [fullN]
  | j + 1, h => by
    rw [Nat.add_mul, Nat.one_mul] at h ⊢
    rw [fullN_succ, List.flatten_append, List.length_append, fullN_flen j (by omega)]
    simp only [List.flatten_cons, List.flatten_nil, List.append_nil]
    rw [piece_len (by omega) (by omega)]; omega
/-- What a Submit adds: full pieces. -/
theorem sub_at {room : Nat} {cs xs : List Nat} (h1 : 1 ≤ room) (hc : ∀ c ∈ cs, c ≤ xs.length) (ys : List Nat) : ∀ j, fromN room cs xs + j * room ≤ (xs ++ ys).length →
    chunkN room cs (xs ++ ys) (fromN room cs xs + j * room + 1) = (gensN room cs xs ++ fullN room (xs ++ ys) (fromN room cs xs) j, fromN room cs xs + j * room)
  | 0, _ => by
    have hle := from_le (cuts := cs) (xs := xs) h1
    rw [Nat.zero_mul, Nat.add_zero, chunk_behind ys _ (by omega), gens_from h1]
    simp [fullN]
  | j + 1, h => by
    rw [Nat.add_mul, Nat.one_mul, ← Nat.add_assoc] at h ⊢
    have ih := sub_at h1 hc ys j (by omega)
    have := chunk_fill (room := room) (cs := cs) (xs := xs ++ ys) (fromN room cs xs + j * room) (fun c h => by have := cut_le h1 hc c h; omega) h1 _ ih
    rw [this, fullN_succ, List.append_assoc]
theorem sub_gens {room : Nat} {cs xs : List Nat} (h1 : 1 ≤ room) (hc : ∀ c ∈ cs, c ≤ xs.length) (ys : List Nat) (j : Nat) (hj : fromN room cs xs + j * room ≤ (xs ++ ys).length) (hj2 : (xs ++ ys).length < fromN room cs xs + j * room + room) :
    gensN room cs (xs ++ ys) = gensN room cs xs ++ fullN room (xs ++ ys) (fromN room cs xs) j ∧ fromN room cs (xs ++ ys) = fromN room cs xs + j * room := by
  have h := sub_at h1 hc ys j hj
  have hw := chunk_wait (room := room) (cs := cs) (xs := xs ++ ys) (fromN room cs xs + j * room) (fun c h => by have := cut_le h1 hc c h; omega) (fromN room cs xs + j * room + 1) (by omega) (by rw [h]) ((xs ++ ys).length - (fromN room cs xs + j * room)) (by omega)
  rw [show fromN room cs xs + j * room + 1 + ((xs ++ ys).length - (fromN room cs xs + j * room)) = (xs ++ ys).length + 1 by omega, h] at hw
  exact ⟨by rw [gensN, hw], by rw [fromN, hw]⟩
/-- The ends, one by one. -/
theorem sub_ends {room : Nat} {cs xs : List Nat} (h1 : 1 ≤ room) (ys : List Nat) (j : Nat) (hj : fromN room cs xs + j * room + room ≤ (xs ++ ys).length) :
    endsN (gensN room cs xs ++ fullN room (xs ++ ys) (fromN room cs xs) (j + 1)) = endsN (gensN room cs xs ++ fullN room (xs ++ ys) (fromN room cs xs) j) ++ [fromN room cs xs + j * room + room] := by
  rw [fullN_succ, ← List.append_assoc, endsN_more, List.flatten_append, List.length_append, gens_flen h1, fullN_flen j (by omega), piece_len (by omega) (by omega)]
  congr 2
  omega
theorem sub_last {room : Nat} {cs xs : List Nat} (h1 : 1 ≤ room) (ys : List Nat) (j : Nat) (hj : fromN room cs xs + j * room ≤ (xs ++ ys).length) :
    (gensN room cs xs ++ fullN room (xs ++ ys) (fromN room cs xs) j).flatten.length = fromN room cs xs + j * room := by
  rw [List.flatten_append, List.length_append, gens_flen h1, fullN_flen j (by omega)]
/-- How many would be: counted by division. -/
theorem would_div {room : Nat} {cs xs : List Nat} (h1 : 1 ≤ room) (hc : ∀ c ∈ cs, c ≤ xs.length) (ys : List Nat) :
    wouldN room cs (xs ++ ys) = (gensN room cs xs).length + ((openN room cs xs).length + ys.length + room - 1) / room := by
  have hle := from_le (cuts := cs) (xs := xs) h1
  have hl : (xs ++ ys).length = xs.length + ys.length := List.length_append
  have hm := Nat.div_add_mod (xs.length - fromN room cs xs + ys.length) room
  have hmod := Nat.mod_lt (xs.length - fromN room cs xs + ys.length) (show room > 0 by omega)
  obtain ⟨j, hj⟩ : ∃ j, (xs.length - fromN room cs xs + ys.length) / room = j := ⟨_, rfl⟩
  rw [hj, Nat.mul_comm] at hm
  obtain ⟨e1, e2⟩ := sub_gens h1 hc ys j (by omega) (by omega)
  have ho : (openN room cs (xs ++ ys)).length = (xs.length - fromN room cs xs + ys.length) % room := by rw [open_flen, e2]; omega
  rw [wouldN, e1, List.length_append, fullN_len, open_flen, Nat.add_assoc]
  congr 1
  by_cases h0 : openN room cs (xs ++ ys) = []
  · rw [if_pos h0]
    rw [h0] at ho
    have ho : 0 = (xs.length - fromN room cs xs + ys.length) % room := ho
    rw [← hm, ← ho, Nat.add_zero, Nat.add_zero]
    symm
    rw [Nat.div_eq_iff (by omega)]
    omega
  · rw [if_neg h0]
    have h2 : 1 ≤ (openN room cs (xs ++ ys)).length := by
      rcases Nat.eq_zero_or_pos (openN room cs (xs ++ ys)).length with e | e
      · exact absurd (List.eq_nil_of_length_eq_zero e) h0
      · exact e
    rw [← hm]
    symm
    rw [Nat.div_eq_iff (by omega), Nat.add_mul]
    omega
end Go.Proofs.Ytcafofffgmaepaa
