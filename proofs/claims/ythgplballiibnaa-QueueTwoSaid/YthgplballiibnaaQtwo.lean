/- The walk of QueueTwo. -/
import Derived.Test.YthgplballiibnaaQawake
import Derived.Test.YthgplballiibnaaCutRow
import Derived.Deep.DeepCutAuto
import Derived.Deep.CutBlock
namespace Go.Proofs.Ythgplballiibnaa
open Go.RowKit
set_option linter.unusedVariables false
/-- Two queues, and what each is to hold. -/
structure Two (w wr : World) (F : Nat → Prop) (g pl : Nat) (X : List (List Nat)) (G : Nat → Prop) (h pm : Nat) (Y : List (List Nat)) (Ax : Option Addr) (nx cx : Nat) (rx : List RowV) (Ay : Option Addr) (ny cy : Nat) (ry : List RowV) : Prop where
  p : One w wr F g pl X
  q : One w wr G h pm Y
  ap : ∀ b, F b → ¬ G b
  x : OwnsAt wr w.heap.size 1 Ax nx cx (rx.map RowV.val)
  y : OwnsAt wr w.heap.size 1 Ay ny cy (ry.map RowV.val)
  xr : ∀ r ∈ rx, LiesIn wr (· < w.heap.size) r
  yr : ∀ r ∈ ry, LiesIn wr (· < w.heap.size) r
  xb : ∀ b, (Value.slice Ax nx cx).ownBlock = some b → ¬ F b ∧ ¬ G b
  yb : ∀ b, (Value.slice Ay ny cy).ownBlock = some b → ¬ F b ∧ ¬ G b ∧ ¬ (Value.slice Ax nx cx).ownBlock = some b
namespace Two
variable {w wr w' : World} {F G F' G' : Nat → Prop} {g pl h pm nx cx ny cy : Nat} {X Y X' Y' : List (List Nat)} {Ax Ay : Option Addr} {rx ry : List RowV}
theorem lenx (t : Two w wr F g pl X G h pm Y Ax nx cx rx Ay ny cy ry) : rx.length = nx := by have := t.x.length; simpa using this
theorem leny (t : Two w wr F g pl X G h pm Y Ax nx cx rx Ay ny cy ry) : ry.length = ny := by have := t.y.length; simpa using this
theorem keep (t : Two w wr F g pl X G h pm Y Ax nx cx rx Ay ny cy ry) : Keep w wr := t.p.keep
/-- The first one has turned. -/
theorem turnP (t : Two w wr F g pl X G h pm Y Ax nx cx rx Ay ny cy ry) (q' : QueR w' F' g pl X') (f' : ∀ b, F' b → F b ∨ wr.heap.size ≤ b) (k' : Turned F wr w') : Two w w' F' g pl X' G h pm Y Ax nx cx rx Ay ny cy ry := by
  have low : ∀ b, b < w.heap.size → ¬ F b := fun b hb e => by have := t.p.low b e; omega
  have no : ∀ b, b < wr.heap.size → ¬ F b → ¬ F' b := fun b hb e e' => by
    rcases f' b e' with e2 | e2
    · exact e e2
    · omega
  refine ⟨t.p.step q' f' k', ⟨t.q.q.turned k' fun b hb e => t.ap b e hb, t.q.low, (t.p.step q' f' k').keep⟩, fun b hb e => ?_, t.x.turned k' fun b hb => (t.xb b hb).1, t.y.turned k' fun b hb => (t.yb b hb).1, fun r hr => (t.xr r hr).turned k' low, fun r hr => (t.yr r hr).turned k' low, fun b hb => ⟨no b (t.x.block b hb).2 (t.xb b hb).1, (t.xb b hb).2⟩, fun b hb => ⟨no b (t.y.block b hb).2 (t.yb b hb).1, (t.yb b hb).2⟩⟩
  exact no b (t.q.q.lt b e) (fun e2 => t.ap b e2 e) hb
/-- The second one has turned. -/
theorem turnQ (t : Two w wr F g pl X G h pm Y Ax nx cx rx Ay ny cy ry) (q' : QueR w' G' h pm Y') (f' : ∀ b, G' b → G b ∨ wr.heap.size ≤ b) (k' : Turned G wr w') : Two w w' F g pl X G' h pm Y' Ax nx cx rx Ay ny cy ry := by
  have low : ∀ b, b < w.heap.size → ¬ G b := fun b hb e => by have := t.q.low b e; omega
  have no : ∀ b, b < wr.heap.size → ¬ G b → ¬ G' b := fun b hb e e' => by
    rcases f' b e' with e2 | e2
    · exact e e2
    · omega
  refine ⟨⟨t.p.q.turned k' fun b hb e => t.ap b hb e, t.p.low, (t.q.step q' f' k').keep⟩, t.q.step q' f' k', fun b hb e => ?_, t.x.turned k' fun b hb => (t.xb b hb).2, t.y.turned k' fun b hb => (t.yb b hb).2.1, fun r hr => (t.xr r hr).turned k' low, fun r hr => (t.yr r hr).turned k' low, fun b hb => ⟨(t.xb b hb).1, no b (t.x.block b hb).2 (t.xb b hb).2⟩, fun b hb => ⟨(t.yb b hb).1, no b (t.y.block b hb).2 (t.yb b hb).2.1, (t.yb b hb).2.2⟩⟩
  exact no b (t.p.q.lt b hb) (fun e2 => t.ap b hb e2) e
theorem later (t : Two w wr F g pl X G h pm Y Ax nx cx rx Ay ny cy ry) (k : Keep wr w') : Two w w' F g pl X G h pm Y Ax nx cx rx Ay ny cy ry :=
  ⟨t.p.later k, t.q.later k, t.ap, t.x.keep k, t.y.keep k, fun r hr => (t.xr r hr).turned (Turned.of_keep (F := fun _ => False) k) fun _ _ e => e, fun r hr => (t.yr r hr).turned (Turned.of_keep (F := fun _ => False) k) fun _ _ e => e, t.xb, t.yb⟩
/-- The first one's rows are others. -/
theorem setX {A2 : Option Addr} {n2 c2 : Nat} {r2 : List RowV} (t : Two w wr F g pl X G h pm Y Ax nx cx rx Ay ny cy ry) (k : Turned (fun b => (Value.slice Ax nx cx).ownBlock = some b) wr w') (o : OwnsAt w' w.heap.size 1 A2 n2 c2 (r2.map RowV.val)) (hb : ∀ b, (Value.slice A2 n2 c2).ownBlock = some b → (Value.slice Ax nx cx).ownBlock = some b ∨ wr.heap.size ≤ b) (hr : ∀ r ∈ r2, LiesIn wr (· < w.heap.size) r) : Two w w' F g pl X G h pm Y A2 n2 c2 r2 Ay ny cy ry := by
  have low : ∀ b, b < w.heap.size → ¬ (Value.slice Ax nx cx).ownBlock = some b := fun b hb e => by have := (t.x.block b e).1; omega
  have kk : Keep w w' := k.keep t.keep fun b e => (t.x.block b e).1
  refine ⟨⟨t.p.q.turned k fun b hb e => (t.xb b e).1 hb, t.p.low, kk⟩, ⟨t.q.q.turned k fun b hb e => (t.xb b e).2 hb, t.q.low, kk⟩, t.ap, o, t.y.turned k fun b hb => (t.yb b hb).2.2, fun r h => (hr r h).turned k low, fun r h => (t.yr r h).turned k low, fun b e => ?_, fun b e => ⟨(t.yb b e).1, (t.yb b e).2.1, fun e2 => ?_⟩⟩
  · rcases hb b e with h1 | h1
    · exact t.xb b h1
    · exact ⟨fun e2 => by have := t.p.q.lt b e2; omega, fun e2 => by have := t.q.q.lt b e2; omega⟩
  · rcases hb b e2 with h1 | h1
    · exact (t.yb b e).2.2 h1
    · have := (t.y.block b e).2; omega
/-- The second one's rows are others. -/
theorem setY {A2 : Option Addr} {n2 c2 : Nat} {r2 : List RowV} (t : Two w wr F g pl X G h pm Y Ax nx cx rx Ay ny cy ry) (k : Turned (fun b => (Value.slice Ay ny cy).ownBlock = some b) wr w') (o : OwnsAt w' w.heap.size 1 A2 n2 c2 (r2.map RowV.val)) (hb : ∀ b, (Value.slice A2 n2 c2).ownBlock = some b → (Value.slice Ay ny cy).ownBlock = some b ∨ wr.heap.size ≤ b) (hr : ∀ r ∈ r2, LiesIn wr (· < w.heap.size) r) : Two w w' F g pl X G h pm Y Ax nx cx rx A2 n2 c2 r2 := by
  have low : ∀ b, b < w.heap.size → ¬ (Value.slice Ay ny cy).ownBlock = some b := fun b hb e => by have := (t.y.block b e).1; omega
  have kk : Keep w w' := k.keep t.keep fun b e => (t.y.block b e).1
  refine ⟨⟨t.p.q.turned k fun b hb e => (t.yb b e).1 hb, t.p.low, kk⟩, ⟨t.q.q.turned k fun b hb e => (t.yb b e).2.1 hb, t.q.low, kk⟩, t.ap, t.x.turned k fun b hb e => (t.yb b e).2.2 hb, o, fun r h => (t.xr r h).turned k low, fun r h => (hr r h).turned k low, t.xb, fun b e => ?_⟩
  rcases hb b e with h1 | h1
  · exact t.yb b h1
  · exact ⟨fun e2 => by have := t.p.q.lt b e2; omega, fun e2 => by have := t.q.q.lt b e2; omega, fun e2 => by have := (t.x.block b e2).2; omega⟩
/-- A row more, behind a block of its own. -/
theorem appX {A2 : Option Addr} {c2 : Nat} {r : RowV} {o : Obj} (t : Two w wr F g pl (rowsXs rx ++ [r.xs]) G h pm Y Ax nx cx rx Ay ny cy ry) (hr : LiesIn wr (· < w.heap.size) r) (o2 : OwnsAt w' w.heap.size 1 A2 (nx + 1) c2 ((rx ++ [r]).map RowV.val)) (k : Turned (fun b => (Value.slice Ax nx cx).ownBlock = some b) (wr.alloc o) w') (hb : ∀ b, (Value.slice A2 (nx + 1) c2).ownBlock = some b → (Value.slice Ax nx cx).ownBlock = some b ∨ wr.heap.size + 1 ≤ b) : Two w w' F g pl (rowsXs (rx ++ [r])) G h pm Y A2 (nx + 1) c2 (rx ++ [r]) Ay ny cy ry := by
  have e : rowsXs (rx ++ [r]) = rowsXs rx ++ [r.xs] := by simp [rowsXs]
  rw [e]
  refine t.setX ((Turned.of_keep ((Keep.refl wr).obj o)).trans k fun i e => Or.inl e) o2 (fun b e => (hb b e).imp id fun h => by omega) fun r' hr' => ?_
  rw [List.mem_append, List.mem_singleton] at hr'
  rcases hr' with hr' | rfl
  · exact t.xr r' hr'
  · exact hr
theorem appY {A2 : Option Addr} {c2 : Nat} {r : RowV} {o : Obj} (t : Two w wr F g pl X G h pm (rowsXs ry ++ [r.xs]) Ax nx cx rx Ay ny cy ry) (hr : LiesIn wr (· < w.heap.size) r) (o2 : OwnsAt w' w.heap.size 1 A2 (ny + 1) c2 ((ry ++ [r]).map RowV.val)) (k : Turned (fun b => (Value.slice Ay ny cy).ownBlock = some b) (wr.alloc o) w') (hb : ∀ b, (Value.slice A2 (ny + 1) c2).ownBlock = some b → (Value.slice Ay ny cy).ownBlock = some b ∨ wr.heap.size + 1 ≤ b) : Two w w' F g pl X G h pm (rowsXs (ry ++ [r])) Ax nx cx rx A2 (ny + 1) c2 (ry ++ [r]) := by
  have e : rowsXs (ry ++ [r]) = rowsXs ry ++ [r.xs] := by simp [rowsXs]
  rw [e]
  refine t.setY ((Turned.of_keep ((Keep.refl wr).obj o)).trans k fun i e => Or.inl e) o2 (fun b e => (hb b e).imp id fun h => by omega) fun r' hr' => ?_
  rw [List.mem_append, List.mem_singleton] at hr'
  rcases hr' with hr' | rfl
  · exact t.yr r' hr'
  · exact hr
end Two
theorem run_min_int' (a : Nat) (k : Int) (m : Nat) (h : min (a : Int) k = (m : Int)) (w : World) : (Builtin.min_ #[3, 3] 3 #[.int .i64 (a : Int), .int .i64 k]).run Try.prog w = .ok (.int .i64 (m : Int)) w := by
  rw [run_min_int2]; congr 2; split <;> omega
theorem eq_bool (a : Int) (b : Int) : ∃ t : Bool, (a == b) = t := ⟨_, rfl⟩
set_option maxRecDepth 100000 in
set_option maxHeartbeats 8000000 in
theorem two_any (x1 x2 n1 c1 : Nat) (A1 : Option Addr) (l : List RowV) (w : World) (hx1 : x1 < 256) (hx2 : x2 < 256) (h1 : RowsAt w w.heap.size A1 n1 l) (m1 : n1 ≤ 140737488351232) :
    Calls Try.prog 5 #[.int .u8 (x1 : Int), .int .u8 (x2 : Int), .slice A1 n1 c1] w fun e w' => e = .returned (.bool true) ∧ Keep w w' := by
  have H1 := Lib.hid h1
  obtain ⟨y1, hy1⟩ : ∃ y, x1 % 64 = y := ⟨_, rfl⟩
  obtain ⟨y2, hy2⟩ : ∃ y, x2 % 64 = y := ⟨_, rfl⟩
  obtain ⟨pl, hpl⟩ : ∃ pl, 1 + y1 = pl := ⟨_, rfl⟩
  obtain ⟨pm, hpm⟩ : ∃ pm, 1 + y2 = pm := ⟨_, rfl⟩
  have f1 : (x1 : Int) % 64 = (y1 : Int) := by omega
  have f2 : 1 + (y1 : Int) = (pl : Int) := by omega
  have f3 : (x2 : Int) % 64 = (y2 : Int) := by omega
  have f4 : 1 + (y2 : Int) = (pm : Int) := by omega
  have p1 : 1 ≤ pl := by omega
  have p2 : pl ≤ 64 := by omega
  have p3 : 1 ≤ pm := by omega
  have p4 : pm ≤ 64 := by omega
  clear h1 hy1 hy2 hpl hpm
  go_enter Try.func5, Try.ntmps5
  go_wp2_with fail
  refine (qnew_in pl p1 p2 _).mono ?_
  rintro e w1 ⟨g, rfl, F, q1, f1', k1⟩
  have O1 : Hid (One w w1 F g pl []) := ⟨q1, f1', k1⟩
  clear q1 f1' k1
  go_wp2_with fail
  refine (qnew_in pm p3 p4 _).mono ?_
  rintro e w2 ⟨h, rfl, G, q2, f2', k2⟩
  have T2 : Hid (Two w w2 F g pl [] G h pm [] none 0 0 [] none 0 0 []) := ⟨O1.out.later k2, ⟨q2, fun b hb => Nat.le_trans O1.out.keep.size (f2' b hb), O1.out.keep.trans k2⟩, fun b hb e => by have := f2' b e; have := O1.out.q.lt b hb; omega, OwnsAt.nothing _ _ _, OwnsAt.nothing _ _ _, fun r hr => by simp at hr, fun r hr => by simp at hr, fun b hb => by simp [Value.ownBlock] at hb, fun b hb => by simp [Value.ownBlock] at hb⟩
  clear q2 f2' k2
  go_wp2_with fail
  refine (awake_any _).mono ?_
  rintro e w3 ⟨rfl, s3⟩
  have T3 := Lib.hid (T2.out.later s3)
  clear s3
  go_wp2_with fail
  go_loopw [49, 13, 14] (fun i xx yy wr => ∃ (j : Nat) (F G : Nat → Prop) (Ax : Option Addr) (nx cx : Nat) (rx : List RowV) (Ay : Option Addr) (ny cy : Nat) (ry : List RowV), j ≤ n1 ∧ j ≤ 100 ∧ i = .int .i64 j ∧ xx = .slice Ax nx cx ∧ yy = .slice Ay ny cy ∧ nx ≤ j ∧ ny ≤ j ∧ Two w wr F g pl (rowsXs rx) G h pm (rowsXs ry) Ax nx cx rx Ay ny cy ry) (fun i _ _ _ => n1 - (intOf i).toNat)
  case atStart => exact ⟨0, F, G, none, 0, 0, [], none, 0, 0, [], by omega, by omega, rfl, rfl, rfl, Nat.le_refl _, Nat.le_refl _, T3.out⟩
  case round =>
    clear T3 T2 O1
    obtain ⟨j, F, G, Ax, nx, cx, rx, Ay, ny, cy, ry, hj, hj1, rfl, rfl, rfl, hnx, hny, ht⟩ := hrel
    by_cases hlt : j < n1
    · obtain ⟨b, off, r, rfl, hb0, hr0, hc0, hv, hvn, hvc⟩ := (H1.out.keep (Nat.le_refl _) ht.keep).at_ hlt
      have e1 : (0 : Int) ≤ (j : Int) := Int.natCast_nonneg _
      have e2 : (j : Int) < (n1 : Int) := by omega
      have HT := Lib.hid ht
      by_cases h100 : j = 100
      · have b0 : ((j : Int) == 100) = true := beq_iff_eq.2 (by omega)
        clear ht h100 hv
        go_wp2_with fail
        go_ret
        exact ⟨rfl, HT.out.keep⟩
      · have b0 : ((j : Int) == 100) = false := beq_eq_false_iff_ne.2 (by omega)
        have hj4 : j < 100 := by omega
        obtain ⟨m, hm⟩ : ∃ m, min r.n 50 = m := ⟨_, rfl⟩
        have hmin := run_min_int' r.n 50 m (by omega)
        have d2 : (m : Int) ≤ (r.n : Int) := by omega
        have d3 : (0 : Int) ≤ (m : Int) := Int.natCast_nonneg _
        have d4 : (m : Int) ≤ (r.c : Int) := by omega
        have hm50 : m ≤ 50 := by omega
        obtain ⟨cr, hcr⟩ : ∃ cr : RowV, cr = ⟨r.A, m, r.c, r.xs.take m⟩ := ⟨_, rfl⟩
        have hcv : LiesIn w (· < w.heap.size) cr := by
          rw [hcr]
          obtain ⟨b', off', r', e', _, hr', _, hv', _⟩ := H1.out.at_ hlt
          have : r' = r := by rw [hr0] at hr'; exact (Option.some.inj hr').symm
          subst this
          exact LiesIn.of_bytes (hv'.cut (m := m) (by omega)) (by show m ≤ r'.c; omega)
        have HCV := Lib.hid hcv
        have HCR := Lib.hid hcr
        have low : ∀ {wz : World}, Keep w wz → LiesIn wz (· < w.heap.size) cr := fun k => HCV.out.turned (Turned.of_keep (F := fun _ => False) k) fun _ _ e => e
        have LOW := Lib.hid (fun wz (k : Keep w wz) => low k)
        have hrA : r.A = cr.A := by rw [hcr]
        have hrc : r.c = cr.c := by rw [hcr]
        have hmn : m = cr.n := by rw [hcr]
        have hcn : cr.n ≤ 50 := by rw [← hmn]; exact hm50
        obtain ⟨t2, ht2⟩ := eq_bool ((j : Int) % 2) 0
        obtain ⟨t3, ht3⟩ : ∃ t : Bool, ((j : Int) % 3 != 0) = t := ⟨_, rfl⟩
        obtain ⟨t7, ht7⟩ := eq_bool ((j : Int) % 7) 6
        obtain ⟨t5, ht5⟩ := eq_bool ((j : Int) % 5) 4
        clear ht h100 hv hm low hcv hcr
        go_upto_region 12 with fail
        go_cut [69] (fun s wx => ∃ (t : Bool) (F' : Nat → Prop), s = .bool t ∧ Two w wx F' g pl (if t = true then rowsXs rx ++ [cr.xs] else rowsXs rx) G h pm (rowsXs ry) Ax nx cx rx Ay ny cy ry)
        case first =>
          cases t2 with
          | false =>
            go_wp2_with fail
            go_meet
            case rel => exact ⟨false, F, rfl, HT.out⟩
          | true =>
            obtain ⟨er, her⟩ : ∃ er, pushErr pl (rowsXs rx) cr.xs = er := ⟨_, rfl⟩
            have HER := Lib.hid her
            clear her
            go_wp2_with fail
            refine (qpush_any _ cr.n cr.c pl g cr.A F cr.xs _ _ HT.out.p.q ((LOW.out _ HT.out.keep).bytes (B := w.heap.size) fun _ h => h) HT.out.keep.size).mono ?_
            rw [HER.out]
            rintro e w5 ⟨rfl, F5, q5, f5, k5⟩
            have HT5 := Lib.hid (HT.out.turnP q5 f5 k5)
            clear q5 f5 k5
            go_wp2_with fail
            go_meet
            case rel => exact ⟨(er == 0), F5, rfl, by have z := HT5.out; rw [pushL, HER.out] at z; simpa using z⟩
        case rest =>
          obtain ⟨t, F5, rfl, ht5'⟩ := hcut
          have HT5 := Lib.hid ht5'
          clear ht5' HT hc0
          go_upto_if 69 with fail
          go_cut [13] (fun xx wx => ∃ (Ax : Option Addr) (nx cx : Nat) (rx : List RowV), xx = .slice Ax nx cx ∧ nx ≤ j + 1 ∧ Two w wx F5 g pl (rowsXs rx) G h pm (rowsXs ry) Ax nx cx rx Ay ny cy ry)
          case first =>
            cases t with
            | false =>
              go_wp2_with fail
              go_meet
              case rel => exact ⟨Ax, nx, cx, rx, rfl, by omega, HT5.out⟩
            | true =>
              go_wp2_with (at_builtin; refine wpList_append_row_at rfl _ _ 40 rfl cr Try.underlying40 infoRow rfl (HT5.out.x.keep ((Keep.refl _).alloc #[.slice cr.A cr.n cr.c] 31)) rfl (by rw [World.cell?_alloc_new]; rfl) (by omega) (by have := HT5.out.keep.size; simp; omega) ?_)
              intro A6 c6 w6 h6 k6 hb6
              have HT6 := Lib.hid (HT5.out.appX (LOW.out _ HT5.out.keep) (by rw [List.map_append]; simpa using h6) k6 hb6)
              clear h6 k6 hb6
              go_wp2_with fail
              go_meet
              case rel => exact ⟨A6, nx + 1, c6, _, rfl, by omega, HT6.out⟩
          case rest =>
            obtain ⟨Ax, nx, cx, rx, rfl, hnx2, ht6'⟩ := hcut
            have HT6 := Lib.hid ht6'
            clear ht6' HT5 hnx
            go_upto_region 14 with fail
            go_cut [82] (fun s wx => ∃ (t : Bool) (G' : Nat → Prop), s = .bool t ∧ Two w wx F5 g pl (rowsXs rx) G' h pm (if t = true then rowsXs ry ++ [cr.xs] else rowsXs ry) Ax nx cx rx Ay ny cy ry)
            case first =>
              cases t3 with
              | false =>
                go_wp2_with fail
                go_meet
                case rel => exact ⟨false, G, rfl, HT6.out⟩
              | true =>
                obtain ⟨er, her⟩ : ∃ er, pushErr pm (rowsXs ry) cr.xs = er := ⟨_, rfl⟩
                have HER := Lib.hid her
                clear her
                go_wp2_with fail
                refine (qpush_any _ cr.n cr.c pm h cr.A G cr.xs _ _ HT6.out.q.q ((LOW.out _ HT6.out.keep).bytes (B := w.heap.size) fun _ h => h) HT6.out.keep.size).mono ?_
                rw [HER.out]
                rintro e w5 ⟨rfl, G5, q5, f5, k5⟩
                have HT7 := Lib.hid (HT6.out.turnQ q5 f5 k5)
                clear q5 f5 k5
                go_wp2_with fail
                go_meet
                case rel => exact ⟨(er == 0), G5, rfl, by have z := HT7.out; rw [pushL, HER.out] at z; simpa using z⟩
            case rest =>
              obtain ⟨t, G5, rfl, ht7'⟩ := hcut
              have HT7 := Lib.hid ht7'
              clear ht7' HT6
              go_upto_if 82 with fail
              go_cut [14] (fun yy wx => ∃ (Ay : Option Addr) (ny cy : Nat) (ry : List RowV), yy = .slice Ay ny cy ∧ ny ≤ j + 1 ∧ Two w wx F5 g pl (rowsXs rx) G5 h pm (rowsXs ry) Ax nx cx rx Ay ny cy ry)
              case first =>
                cases t with
                | false =>
                  go_wp2_with fail
                  go_meet
                  case rel => exact ⟨Ay, ny, cy, ry, rfl, by omega, HT7.out⟩
                | true =>
                  go_wp2_with (at_builtin; refine wpList_append_row_at rfl _ _ 40 rfl cr Try.underlying40 infoRow rfl (HT7.out.y.keep ((Keep.refl _).alloc #[.slice cr.A cr.n cr.c] 31)) rfl (by rw [World.cell?_alloc_new]; rfl) (by omega) (by have := HT7.out.keep.size; simp; omega) ?_)
                  intro A6 c6 w6 h6 k6 hb6
                  have HT8 := Lib.hid (HT7.out.appY (LOW.out _ HT7.out.keep) (by rw [List.map_append]; simpa using h6) k6 hb6)
                  clear h6 k6 hb6
                  go_wp2_with fail
                  go_meet
                  case rel => exact ⟨A6, ny + 1, c6, _, rfl, by omega, HT8.out⟩
              case rest =>
                obtain ⟨Ay, ny, cy, ry, rfl, hny2, ht8'⟩ := hcut
                have HT8 := Lib.hid ht8'
                clear ht8' HT7 hny
                go_upto_if 89 with fail
                go_cut [13] (fun xx wx => ∃ (F6 : Nat → Prop) (Ax : Option Addr) (nx cx : Nat) (rx : List RowV), xx = .slice Ax nx cx ∧ nx ≤ j + 1 ∧ Two w wx F6 g pl (rowsXs rx) G5 h pm (rowsXs ry) Ax nx cx rx Ay ny cy ry)
                case first =>
                  cases t7 with
                  | false =>
                    go_wp2_with fail
                    go_meet
                    case rel => exact ⟨F5, Ax, nx, cx, rx, rfl, hnx2, HT8.out⟩
                  | true =>
                    go_wp2_with fail
                    refine (qclear_any pl g F5 _ _ HT8.out.p.q).mono ?_
                    rintro e w5 ⟨rfl, F6, q5, f5, k5⟩
                    have z := HT8.out.turnP q5 f5 k5
                    have HT9 : Hid (Two w w5 F6 g pl (rowsXs []) G5 h pm (rowsXs ry) none 0 0 [] Ay ny cy ry) := z.setX (Turned.refl _ _) (OwnsAt.nothing _ _ _) (fun b hb => by simp [Value.ownBlock] at hb) fun r hr => by simp at hr
                    clear q5 f5 k5 z
                    go_wp2_with fail
                    go_meet
                    case rel => exact ⟨F6, none, 0, 0, [], rfl, by omega, HT9.out⟩
                case rest =>
                  obtain ⟨F6, Ax, nx, cx, rx, rfl, hnx3, ht9'⟩ := hcut
                  have HT9 := Lib.hid ht9'
                  clear ht9' HT8 hnx2
                  go_upto_region 19 with fail
                  go_cut [99] (fun s wx => ∃ t : Bool, s = .bool t ∧ wx = wc ∧ (t = true → 0 < ny))
                  case first =>
                    cases t5 with
                    | false =>
                      go_wp2_with fail
                      go_meet
                      case rel => exact ⟨false, rfl, rfl, fun e => by cases e⟩
                    | true =>
                      obtain ⟨t, ht⟩ : ∃ t, decide ((0 : Int) < (ny : Int)) = t := ⟨_, rfl⟩
                      have ht2 : decide (0 < ny) = t := by rw [← ht]; congr 1; exact propext (by omega)
                      have HTT := Lib.hid ht
                      go_wp2_with fail
                      go_meet
                      case rel => exact ⟨t, rfl, rfl, fun e => by have z := HTT.out; rw [e] at z; have := of_decide_eq_true z; omega⟩
                  case rest =>
                    obtain ⟨t, rfl, rfl, hny0⟩ := hcut
                    have HN := Lib.hid hny0
                    clear hny0
                    go_upto_if 99 with fail
                    go_cut [14] (fun yy wx => ∃ (G6 : Nat → Prop) (Ay : Option Addr) (ny cy : Nat) (ry : List RowV), yy = .slice Ay ny cy ∧ ny ≤ j + 1 ∧ Two w wx F6 g pl (rowsXs rx) G6 h pm (rowsXs ry) Ax nx cx rx Ay ny cy ry)
                    case first =>
                      cases t with
                      | false =>
                        go_wp2_with fail
                        go_meet
                        case rel => exact ⟨G5, Ay, ny, cy, ry, rfl, hny2, HT9.out⟩
                      | true =>
                        have hny0 : 0 < ny := HN.out rfl
                        cases ry with
                        | nil => exact absurd HT9.out.leny (by simp; omega)
                        | cons r0 ry =>
                        have hl := HT9.out.leny
                        have HL := Lib.hid hl
                        have hdrop : ∀ w, (Instr.slice 40 (.slice Ay ny cy) (some (.int .i64 1)) none none).run Try.prog w = .ok (.slice (dropA Ay cy 1) (ny - 1) (cy - 1)) w := fun w => run_drop (t := 40) (by kernel_rfl) infoRow ny cy 1 _ hny0 w
                        clear hl
                        go_wp2_with fail
                        refine (qpop_any pm h G5 _ _ HT9.out.q.q).mono ?_
                        rintro e w6 ⟨r6, rfl, hr6, G6, q6, f6, l6, k6⟩
                        have z := HT9.out.turnQ q6 f6 k6
                        have hb6 := l6.bytes (B := w6.heap.size) fun b hb => hb.2.2
                        have HB6 := Lib.hid hb6
                        have HR6 : Hid (r6.xs = r0.xs) := hr6
                        have y0 := (z.yr r0 (by simp)).bytes (B := w.heap.size) fun _ h => h
                        have Y0 := Lib.hid y0
                        have HTA : Hid (Two w w6 F6 g pl (rowsXs rx) G6 h pm (rowsXs ry) Ax nx cx rx (dropA Ay cy 1) (ny - 1) (cy - 1) ry) := z.setY (Turned.refl _ _) (z.y.drop (s := 1) hny0) (fun b hb => Or.inl (by
                          have hcap := z.y.cap
                          rw [dropA] at hb
                          split at hb
                          · cases Ay with
                            | none => simp [Value.ownBlock] at hb
                            | some a => simpa [Value.ownBlock] using hb
                          · cases Ay with
                            | none => simp [Value.ownBlock] at hb
                            | some a => simpa [Value.ownBlock, Addr.add] using hb)) fun r hr => z.yr r (by simp [hr])
                        have hcell : ∃ gy oy, Ay = some ⟨gy, oy, none⟩ ∧ w6.cell? ⟨gy, oy, none⟩ = some (.slice r0.A r0.n r0.c) := by
                          rcases z.y.lies with ⟨rfl, hc⟩ | ⟨gy, oy, rfl, _, _, h3, _⟩
                          · have := z.y.cap; omega
                          · exact ⟨gy, oy, rfl, h3 0 _ rfl⟩
                        obtain ⟨gy, oy, rfl, hcell⟩ := hcell
                        have hnyi : (0 : Int) < (ny : Int) := by omega
                        clear q6 f6 l6 k6 z hb6 hr6 y0
                        go_wp2_with fail
                        refine (equal_any _ _ r6.n r0.n _ _ _ _ _ _ _ HB6.out Y0.out).mono ?_
                        rw [decide_eq_true HR6.out]
                        rintro e w7 ⟨rfl, rfl⟩
                        go_wp2_with fail
                        go_meet
                        case rel => exact ⟨G6, _, ny - 1, cy - 1, ry, rfl, by omega, HTA.out⟩
                    case rest =>
                      obtain ⟨G6, Ay, ny, cy, ry, rfl, hny4, htA⟩ := hcut
                      have HTA := Lib.hid htA
                      clear htA HT9 HN hny2
                      have hs := HTA.out.p.q.short.1
                      have hl : (rowsXs rx).length = nx := by rw [rowsXs, List.length_map, HTA.out.lenx]
                      rw [hl] at hs
                      have HL := Lib.hid hl
                      have z0 : (((pl : Int) - (nx : Int)) != ((pl : Int) - (nx : Int))) = false := by simp
                      clear hl
                      go_wp2_with fail
                      refine (qall_any pl g F6 _ _ HTA.out.p.q).mono ?_
                      rintro e w6 ⟨Al, nl, cl, rfl, rs, o4, hx4, hr4, k4⟩
                      have T6 := HTA.out.later k4
                      have hI1 : RowsIn w6 (· < w6.heap.size) Al nl rs := RowsIn.of_own o4 (fun r hr => (hr4 r hr).lies.mono fun b hb => ((hr4 r hr).1.lt b hb).2) (fun b hb => (o4.lt b hb).2)
                      have hI2 : RowsIn w6 (· < w6.heap.size) Ax nx rx := RowsIn.of_at T6.x (fun r hr => (T6.xr r hr).mono fun b hb => Nat.lt_of_lt_of_le hb T6.keep.size) (fun b hb => (T6.x.block b hb).2)
                      obtain rfl : nx = nl := by rw [← o4.length, ← hI2.1]; have := congrArg List.length hx4; simpa [rowsXs] using this.symm
                      have HT6 := Lib.hid T6
                      have HI := Lib.hid (And.intro hI1 hI2)
                      have HX4 := Lib.hid hx4
                      clear T6 o4 hr4 k4 hI1 hI2 hx4
                      go_wp2_with fail
                      refine (rsame_any nx nx cl cx Al Ax _ _ rs rx _ HI.out.1 HI.out.2 (fun _ h => h) (fun _ h => h) (by omega)).mono ?_
                      rw [decide_eq_true HX4.out]
                      rintro e w7 ⟨rfl, q7, rfl⟩
                      have T7 := Lib.hid (HT6.out.later ((Keep.refl w6).drewN q7))
                      generalize w6.drewN q7 = w7 at *
                      clear HI HT6
                      go_wp2_with fail
                      refine (qall_any pm h G6 _ _ T7.out.q.q).mono ?_
                      rintro e w8 ⟨Am, nm, cm, rfl, rs2, o4, hx4, hr4, k4⟩
                      have T8 := T7.out.later k4
                      have hI1 : RowsIn w8 (· < w8.heap.size) Am nm rs2 := RowsIn.of_own o4 (fun r hr => (hr4 r hr).lies.mono fun b hb => ((hr4 r hr).1.lt b hb).2) (fun b hb => (o4.lt b hb).2)
                      have hI2 : RowsIn w8 (· < w8.heap.size) Ay ny ry := RowsIn.of_at T8.y (fun r hr => (T8.yr r hr).mono fun b hb => Nat.lt_of_lt_of_le hb T8.keep.size) (fun b hb => (T8.y.block b hb).2)
                      obtain rfl : ny = nm := by rw [← o4.length, ← hI2.1]; have := congrArg List.length hx4; simpa [rowsXs] using this.symm
                      have HT8 := Lib.hid T8
                      have HI := Lib.hid (And.intro hI1 hI2)
                      have HX5 := Lib.hid hx4
                      clear T8 o4 hr4 k4 hI1 hI2 hx4
                      go_wp2_with fail
                      refine (rsame_any ny ny cm cy Am Ay _ _ rs2 ry _ HI.out.1 HI.out.2 (fun _ h => h) (fun _ h => h) (by omega)).mono ?_
                      rw [decide_eq_true HX5.out]
                      rintro e w9 ⟨rfl, q9, rfl⟩
                      have T9 := Lib.hid (HT8.out.later ((Keep.refl w8).drewN q9))
                      generalize w8.drewN q9 = w9 at *
                      clear HI HT8
                      go_wp2_with fail
                      refine (qfree_any pl g F6 _ _ T9.out.p.q).mono ?_
                      rw [HL.out]
                      rintro e w10 ⟨rfl, kd, rfl⟩
                      have T10 := Lib.hid (T9.out.later ((Keep.refl w9).drewN kd))
                      generalize w9.drewN kd = w10 at *
                      clear T9
                      go_wp2_with fail
                      go_roundw
                      case rel => exact ⟨j + 1, F6, G6, Ax, nx, cx, rx, Ay, ny, cy, ry, by omega, by omega, by go_num, rfl, rfl, by omega, by omega, T10.out⟩
                      case measure => simp [intOf]; omega
    · obtain rfl : n1 = j := by omega
      have HT := Lib.hid ht
      clear ht
      go_wp2_with fail
      go_ret
      exact ⟨rfl, HT.out.keep⟩
end Go.Proofs.Ythgplballiibnaa
