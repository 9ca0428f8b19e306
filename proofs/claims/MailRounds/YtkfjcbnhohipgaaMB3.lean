import Derived.Test.YtkfjcbnhohipgaaMB2
import Derived.BigQuiet
import Derived.Deep.RegionLaw
import Derived.Deep.RegionHeld3
import Derived.Deep.Cut
import Derived.Deep.DeepCutAuto
import Derived.Deep.CutBlock
import Derived.Deep.CutRange
import Derived.Deep.AppendLies
import Derived.Handy
import Derived.Lib.RabinKarpLaws
namespace Go.Proofs.Ytkfjcbnhohipgaa
open Go.ChangeShapes Go.WideShapes Go.ChangeAt Go.RowKit
set_option linter.unusedVariables false
set_option linter.unusedSimpArgs false


/-- a half, with the things in it -/
structure Hf where
  q : Option Addr
  l : Nat
  c : Nat
  k : Nat → Int × Int
def Hf.v (h : Hf) : Value := .slice h.q h.l h.c
def wkF (ph fl : Nat → Int) (j : Nat) : Value := if j % 2 = 0 then .int .i64 (ph (j / 2)) else .int .i64 (fl (j / 2))
def bxF (H : Nat → Nat → Hf) (j : Nat) : Value := (H (j / 2) (j % 2)).v
def thF (k : Nat → Int × Int) (j : Nat) : Value := if j % 2 = 0 then .int .i64 (k (j / 2)).1 else .int .i64 (k (j / 2)).2
structure MP (Fo : Nat → Option Obj) (W : World) (base hb wb bb n : Nat) (room : Int) (cmp : Value) (R : Nat → Nat) (ph fl : Nat → Int) (H : Nat → Nat → Nat → Hf) : Prop where
  p : PAt9 W hb wb bb n room cmp
  w : Own W base 81 2 (.slice (some ⟨wb, 0, none⟩) n n) n (wkF ph fl)
  b : Own W base 72 1 (.slice (some ⟨bb, 0, none⟩) n n) n (fun i => .slice (some ⟨R i, 0, none⟩) n n)
  r : ∀ i, i < n → Own W base 78 2 (.slice (some ⟨R i, 0, none⟩) n n) n (bxF (H i))
  ap : ∀ i j, i < n → j < n → R i = R j → i = j
  h : ∀ i j k, i < n → j < n → k < 2 → Own W base 31 2 (H i j k).v (H i j k).l (thF (H i j k).k)
  hd : ∀ i j k i' j' k', i < n → j < n → k < 2 → i' < n → j' < n → k' < 2 → ∀ g, (H i j k).v.ownBlock = some g → (H i' j' k').v.ownBlock = some g → i = i' ∧ j = j' ∧ k = k'
  hbs : base ≤ hb
  s : ∀ i j k, (H i j k).l ≤ 1024
  fr : ∀ k o, Fo k = some o → W.heap[k]? = some o ∧ k ≠ wb ∧ (∀ i, i < n → k ≠ R i) ∧ ∀ i j h, i < n → j < n → h < 2 → (H i j h).v.ownBlock ≠ some k
theorem Own.apart {W : World} {base : Nat} {t t' : TypeId} {s m b : Nat} {v : Value} {F : Nat → Value} {cs : Array Value} {fz : Nat × Nat} (h : Own W base t s v m F) (hb : W.heap[b]? = some (.cells cs t' fz)) (ht : t ≠ t') : ∀ k, v.ownBlock = some k → k ≠ b := by
  intro k hk
  rcases h.form with ⟨rfl, _⟩ | ⟨g, c, rfl, _⟩
  · simp [Value.ownBlock] at hk
  · simp [Value.ownBlock] at hk
    subst hk
    obtain ⟨cur, h1, _⟩ := h.block
    exact typ_ne h1 hb ht
theorem Own.clash {W : World} {base base' : Nat} {t t' : TypeId} {s s' m m' k : Nat} {v v' : Value} {F F' : Nat → Value} (h : Own W base t s v m F) (h' : Own W base' t' s' v' m' F') (ht : t ≠ t') (h1 : v.ownBlock = some k) (h2 : v'.ownBlock = some k) : False := by
  rcases h'.form with ⟨rfl, _⟩ | ⟨g, c, rfl, _⟩
  · simp [Value.ownBlock] at h2
  · simp [Value.ownBlock] at h2
    subst h2
    obtain ⟨cur, h3, _⟩ := h'.block
    exact h.apart h3 ht _ h1 rfl
theorem MP.later {W : World} {Fo : Nat → Option Obj} {base hb wb bb n : Nat} {room : Int} {cmp : Value} {R : Nat → Nat} {ph fl : Nat → Int} {H : Nat → Nat → Nat → Hf} {W' : World} (h : MP Fo W base hb wb bb n room cmp R ph fl H) (hb' : Below W.heap.size W W') : MP Fo W' base hb wb bb n room cmp R ph fl H :=
  ⟨(hb'.block _ (lt_of_block h.p)).trans h.p, h.w.later hb', h.b.later hb', fun i hi => (h.r i hi).later hb', h.ap, fun i j k hi hj hk => (h.h i j k hi hj hk).later hb', h.hd, h.hbs, h.s, fun k o hk => ⟨(hb'.block _ (lt_of_block (h.fr k o hk).1)).trans (h.fr k o hk).1, (h.fr k o hk).2⟩⟩
theorem MP.wk {W : World} {Fo : Nat → Option Obj} {base hb wb bb n : Nat} {room : Int} {cmp : Value} {R : Nat → Nat} {ph fl : Nat → Int} {H : Nat → Nat → Nat → Hf} (h : MP Fo W base hb wb bb n room cmp R ph fl H) : WK W wb n ph fl := fun i hi => by
  have a := h.w.cell (j := i * 2) (by omega)
  have b := h.w.cell (j := i * 2 + 1) (by omega)
  unfold wkF at a b
  rw [if_pos (by omega), show i * 2 / 2 = i by omega] at a
  rw [if_neg (by omega), show (i * 2 + 1) / 2 = i by omega] at b
  exact ⟨a, b⟩
theorem MP.bs {W : World} {Fo : Nat → Option Obj} {base hb wb bb n : Nat} {room : Int} {cmp : Value} {R : Nat → Nat} {ph fl : Nat → Int} {H : Nat → Nat → Nat → Hf} (h : MP Fo W base hb wb bb n room cmp R ph fl H) : BS W hb wb bb n room cmp R := ⟨h.p, fun i hi => h.b.cell (j := i) (by omega), lt_of_block h.p, (Own.lt h.b bb rfl).2⟩
theorem MP.hv {W : World} {Fo : Nat → Option Obj} {base hb wb bb n : Nat} {room : Int} {cmp : Value} {R : Nat → Nat} {ph fl : Nat → Int} {H : Nat → Nat → Nat → Hf} (h : MP Fo W base hb wb bb n room cmp R ph fl H) {i j k : Nat} (hi : i < n) (hj : j < n) (hk : k < 2) : W.cell? ⟨R i, j * 2 + k, none⟩ = some (H i j k).v := by
  have a := (h.r i hi).cell (j := j * 2 + k) (by omega)
  unfold bxF at a
  rw [show (j * 2 + k) / 2 = j by omega, show (j * 2 + k) % 2 = k by omega] at a
  exact a
theorem MP.bx {W : World} {Fo : Nat → Option Obj} {base hb wb bb n : Nat} {room : Int} {cmp : Value} {R : Nat → Nat} {ph fl : Nat → Int} {H : Nat → Nat → Nat → Hf} (h : MP Fo W base hb wb bb n room cmp R ph fl H) : BX W hb wb bb n room cmp R (fun i j k => (H i j k).l) := ⟨h.p, h.bs.b, fun i j hi hj => ⟨_, _, _, _, h.hv (k := 0) hi hj (by decide), h.hv (k := 1) hi hj (by decide)⟩, h.s⟩
/-- a worker's phase, or its error, is another -/
theorem MP.setW {W : World} {Fo : Nat → Option Obj} {base hb wb bb n : Nat} {room : Int} {cmp : Value} {R : Nat → Nat} {ph fl : Nat → Int} {H : Nat → Nat → Nat → Hf} (h : MP Fo W base hb wb bb n room cmp R ph fl H) (x : Nat) (hx : x < n) (e : Nat) (he : e < 2) (z : Int) : MP Fo (W.setCell ⟨wb, x * 2 + e, none⟩ (.int .i64 z)) base hb wb bb n room cmp R (if e = 0 then fun i => if i = x then z else ph i else ph) (if e = 1 then fun i => if i = x then z else fl i else fl) H := by
  obtain ⟨cw, hcw, _⟩ := h.w.block
  have hset : ∀ j, j ≠ wb → (W.setCell ⟨wb, x * 2 + e, none⟩ (.int .i64 z)).heap[j]? = W.heap[j]? := fun j hj => Below.heap_setCell _ _ _ _ hj
  refine ⟨(hset hb (typ_ne h.p hcw (by decide))).trans h.p, ?_, h.b.far fun k hk => hset k (h.b.apart hcw (by decide) k hk), fun i hi => (h.r i hi).far fun k hk => hset k ((h.r i hi).apart hcw (by decide) k hk), h.ap, fun i j k hi hj hk => (h.h i j k hi hj hk).far fun k' hk' => hset k' ((h.h i j k hi hj hk).apart hcw (by decide) k' hk'), h.hd, h.hbs, h.s, fun k o hk => ⟨(hset k (h.fr k o hk).2.1).trans (h.fr k o hk).1, (h.fr k o hk).2⟩⟩
  refine Own.congr (h.w.put (x * 2 + e) [.int .i64 z]) fun j hj => ?_
  unfold putF wkF
  simp only [List.length_singleton]
  by_cases h1 : j = x * 2 + e
  · subst h1
    rw [if_pos (by omega), show x * 2 + e - (x * 2 + e) = 0 by omega, show (x * 2 + e) / 2 = x by omega]
    rcases (by omega : e = 0 ∨ e = 1) with rfl | rfl
    · simp
    · rw [if_neg (by omega)]; simp
  · rw [if_neg (by omega)]
    rcases (by omega : e = 0 ∨ e = 1) with rfl | rfl
    · by_cases h2 : j % 2 = 0
      · rw [if_pos h2, if_pos h2]; simp; intro h9; exact absurd h9 (by omega)
      · rw [if_neg h2, if_neg h2]; simp
    · by_cases h2 : j % 2 = 0
      · rw [if_pos h2, if_pos h2]; simp
      · rw [if_neg h2, if_neg h2]; simp; intro h9; exact absurd h9 (by omega)
def setHf (H : Nat → Nat → Nat → Hf) (x y e : Nat) (f : Hf) : Nat → Nat → Nat → Hf := fun i j k => if i = x ∧ j = y ∧ k = e then f else H i j k
theorem setHf_at (H : Nat → Nat → Nat → Hf) (x y e : Nat) (f : Hf) : setHf H x y e f x y e = f := by simp [setHf]
theorem setHf_ne (H : Nat → Nat → Nat → Hf) (x y e : Nat) (f : Hf) {i j k : Nat} (h : ¬ (i = x ∧ j = y ∧ k = e)) : setHf H x y e f i j k = H i j k := by simp [setHf, h]
/-- a half is another: its row has grown, or is new -/
theorem MP.setH {W : World} {Fo : Nat → Option Obj} {base hb wb bb n : Nat} {room : Int} {cmp : Value} {R : Nat → Nat} {ph fl : Nat → Int} {H : Nat → Nat → Nat → Hf} {W' : World} (h : MP Fo W base hb wb bb n room cmp R ph fl H) (x y e : Nat) (hx : x < n) (hy : y < n) (he : e < 2) (hg : W.grownBy W' (H x y e).v.ownBlock) (f : Hf) (hown : Own W' base 31 2 f.v f.l (thF f.k)) (hat : f.v.ownBlock = (H x y e).v.ownBlock ∨ ∃ g, f.v.ownBlock = some g ∧ W.heap.size ≤ g) (hl : f.l ≤ 1024) :
    MP Fo (W'.setCell ⟨R x, y * 2 + e, none⟩ f.v) base hb wb bb n room cmp R ph fl (setHf H x y e f) := by
  have hxo := h.h x y e hx hy he
  have kp : PAt9 W' hb wb bb n room cmp := (hg.block _ (lt_of_block h.p) fun e2 => hxo.apart h.p (by decide) hb e2.symm rfl).trans h.p
  have kw := h.w.keptBy hg fun k hk e2 => h.w.clash hxo (by decide) hk e2
  have kb := h.b.keptBy hg fun k hk e2 => h.b.clash hxo (by decide) hk e2
  have kr := fun i hi => (h.r i hi).keptBy hg fun k hk e2 => (h.r i hi).clash hxo (by decide) hk e2
  have kh : ∀ i j k, i < n → j < n → k < 2 → ¬ (i = x ∧ j = y ∧ k = e) → Own W' base 31 2 (H i j k).v (H i j k).l (thF (H i j k).k) := fun i j k hi hj hk hne => (h.h i j k hi hj hk).keptBy hg fun g h1 h2 => hne (h.hd i j k x y e hi hj hk hx hy he g h1 h2)
  obtain ⟨cr, hcr, _⟩ := (kr x hx).block
  have hset : ∀ j, j ≠ R x → (W'.setCell ⟨R x, y * 2 + e, none⟩ f.v).heap[j]? = W'.heap[j]? := fun j hj => Below.heap_setCell _ _ _ _ hj
  refine ⟨(hset hb (typ_ne kp hcr (by decide))).trans kp, kw.far fun k hk => hset k (kw.apart hcr (by decide) k hk), kb.far fun k hk => hset k (kb.apart hcr (by decide) k hk), fun i hi => ?_, h.ap, fun i j k hi hj hk => ?_, fun i j k i' j' k' hi hj hk hi' hj' hk' g h1 h2 => ?_, h.hbs, fun i j k => ?_, fun k o hk => ?_⟩
  · by_cases e1 : i = x
    · subst e1
      refine Own.congr ((kr i hi).put (y * 2 + e) [f.v]) fun j hj => ?_
      unfold putF bxF
      simp only [List.length_singleton]
      by_cases h1 : j = y * 2 + e
      · subst h1
        rw [if_pos (by omega), show y * 2 + e - (y * 2 + e) = 0 by omega, show (y * 2 + e) / 2 = y by omega, show (y * 2 + e) % 2 = e by omega, setHf_at]
        rfl
      · rw [if_neg (by omega), setHf_ne]
        rintro ⟨_, h2, h3⟩
        omega
    · refine Own.congr ((kr i hi).far fun k hk => hset k ?_) fun j hj => ?_
      · simp [Value.ownBlock] at hk
        subst hk
        exact fun e2 => e1 (h.ap i x hi hx e2)
      · unfold bxF
        rw [setHf_ne]
        rintro ⟨h2, _⟩
        exact e1 h2
  · by_cases e1 : i = x ∧ j = y ∧ k = e
    · obtain ⟨rfl, rfl, rfl⟩ := e1
      rw [setHf_at]
      exact hown.far fun k' hk' => hset k' (hown.apart hcr (by decide) k' hk')
    · rw [setHf_ne _ _ _ _ _ e1]
      exact (kh i j k hi hj hk e1).far fun k' hk' => hset k' ((kh i j k hi hj hk e1).apart hcr (by decide) k' hk')
  · have key : ∀ i j k, i < n → j < n → k < 2 → ¬ (i = x ∧ j = y ∧ k = e) → ∀ g, f.v.ownBlock = some g → (H i j k).v.ownBlock = some g → False := fun i j k hi hj hk hne g h1 h2 => by
      rcases hat with h3 | ⟨g', h3, h4⟩
      · rw [h3] at h1
        exact hne (h.hd i j k x y e hi hj hk hx hy he g h2 h1)
      · rw [h3] at h1
        injection h1 with h1
        have := ((h.h i j k hi hj hk).lt g h2).2
        omega
    by_cases e1 : i = x ∧ j = y ∧ k = e
    · by_cases e2 : i' = x ∧ j' = y ∧ k' = e
      · omega
      · rw [setHf_ne _ _ _ _ _ e2] at h2
        obtain ⟨rfl, rfl, rfl⟩ := e1
        rw [setHf_at] at h1
        exact (key i' j' k' hi' hj' hk' e2 g h1 h2).elim
    · rw [setHf_ne _ _ _ _ _ e1] at h1
      by_cases e2 : i' = x ∧ j' = y ∧ k' = e
      · obtain ⟨rfl, rfl, rfl⟩ := e2
        rw [setHf_at] at h2
        exact (key i j k hi hj hk e1 g h2 h1).elim
      · rw [setHf_ne _ _ _ _ _ e2] at h2
        exact h.hd i j k i' j' k' hi hj hk hi' hj' hk' g h1 h2
  · unfold setHf
    split
    · exact hl
    · exact h.s i j k
  · obtain ⟨f1, f2, f3, f4⟩ := h.fr k o hk
    refine ⟨(hset k (f3 x hx)).trans ((hg.block _ (lt_of_block f1) fun e2 => f4 x y e hx hy he e2.symm).trans f1), f2, f3, fun i j h9 hi hj hh => ?_⟩
    by_cases e1 : i = x ∧ j = y ∧ h9 = e
    · obtain ⟨rfl, rfl, rfl⟩ := e1
      rw [setHf_at]
      rcases hat with h3 | ⟨g', h3, h4⟩
      · rw [h3]; exact f4 i j h9 hi hj hh
      · rw [h3]
        intro e2
        injection e2 with e2
        have := lt_of_block f1
        omega
    · rw [setHf_ne _ _ _ _ _ e1]
      exact f4 i j h9 hi hj hh
set_option maxRecDepth 100000 in
/-- fail: the error is kept -/
theorem fail_any (x : Nat) {Fo : Nat → Option Obj} {base hb wb bb n : Nat} {room : Int} {cmp : Value} {R : Nat → Nat} {ph fl : Nat → Int} {H : Nat → Nat → Nat → Hf} (hx : x < n) (z : Int) (W : World) (h : MP Fo W base hb wb bb n room cmp R ph fl H) :
    Calls Try.prog 31 #[.pointer (some ⟨hb, 0, none⟩), .int .i64 (x : Int), .int .i64 z] W fun e W' => e = .returned (.int .i64 z) ∧ MP Fo W' base hb wb bb n room cmp R ph (fun i => if i = x then z else fl i) H ∧ Below base W W' := by
  obtain ⟨c0, c1, c2, c3⟩ := h.p.cells
  obtain ⟨y0, y1⟩ := h.wk x hx
  have x0 : (0 : Int) ≤ (x : Int) := by omega
  have x1 : (x : Int) < (n : Int) := by omega
  have nf : W.frozen? ⟨wb, x * 2 + 1, none⟩ = false := by obtain ⟨cr, hcr, _⟩ := h.w.block; exact frz hcr _
  have HM := mhid (h.setW x hx 1 (by decide) z)
  have HB := mhid (((Below.refl base W).setCell (p := ⟨wb, x * 2 + 1, none⟩) (Own.lt h.w wb rfl).1 (.int .i64 z)))
  clear h
  go_enter Try.func31, Try.ntmps31
  go_wp2_with fail
  go_ret
  exact ⟨rfl, HM.out, HB.out⟩
end Go.Proofs.Ytkfjcbnhohipgaa
