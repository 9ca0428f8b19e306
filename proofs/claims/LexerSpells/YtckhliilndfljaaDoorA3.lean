import Derived.Test.YtckhliilndfljaaDoorA1
import Derived.Test.YtckhliilndfljaaDoorAZ
namespace Go.Proofs.YtckhliilndfljaaDoor
open Go.ChangeShapes Go.WideShapes Go.ChangeAt Go.RowKit
set_option linter.unusedVariables false

/-- n slices of the call's own, apart from one another -/
structure Lists (W : World) (base : Nat) (t : TypeId) (s n : Nat) (V : Nat → Value) (M : Nat → Nat) (F : Nat → Nat → Value) : Prop where
  own : ∀ k, k < n → Own W base t s (V k) (M k) (F k)
  apart : ∀ j k, j < n → k < n → j ≠ k → (V j).ownBlock = none ∨ (V j).ownBlock ≠ (V k).ownBlock
theorem Lists.put {W : World} {base : Nat} {t : TypeId} {s n : Nat} {V : Nat → Value} {M : Nat → Nat} {F : Nat → Nat → Value} (h : Lists W base t s n V M F) {k g c : Nat} (hk : k < n) (hv : V k = .slice (some ⟨g, 0, none⟩) (M k) c) (o : Nat) (vs : List Value) : Lists (W.setCells g o vs) base t s n V M (fun j => if j = k then putF (F k) o vs else F j) := by
  refine ⟨fun j hj => ?_, h.apart⟩
  by_cases e : j = k
  · subst e
    rw [if_pos rfl, hv]
    have := h.own j hj
    rw [hv] at this
    exact this.put o vs
  · rw [if_neg e]
    refine (h.own j hj).far fun b hb => setCells_other g vs o W b ?_
    rintro rfl
    rcases h.apart j k hj hk e with h1 | h1
    · rw [h1] at hb
      cases hb
    · exact h1 (by rw [hb, hv]; rfl)
theorem Own.kind {W : World} {base : Nat} {t : TypeId} {s m : Nat} {v : Value} {F : Nat → Value} (h : Own W base t s v m F) {g : Nat} (hg : v.ownBlock = some g) : base ≤ g ∧ g < W.heap.size ∧ ∃ cur, W.heap[g]? = some (.cells cur t (0, 0)) := by
  rcases h.2 with ⟨rfl, _⟩ | ⟨g', cap, cur, rfl, hb, hh, r⟩
  · cases hg
  · cases hg
    exact ⟨hb, (Array.getElem?_eq_some_iff.1 hh).1, cur, hh⟩
theorem Own.other {W : World} {base : Nat} {t u : TypeId} {s m : Nat} {v : Value} {F : Nat → Value} (h : Own W base t s v m F) {g : Nat} {cur : Array Value} {fr : Nat × Nat} (hg : W.heap[g]? = some (.cells cur u fr)) (hne : t ≠ u) : v.ownBlock ≠ some g := by
  intro e
  obtain ⟨_, _, c, hc⟩ := h.kind e
  rw [hg] at hc
  injection hc with hc
  injection hc with _ h2 _
  exact hne h2.symm
theorem Own.grown {W W' : World} {base : Nat} {t : TypeId} {s m : Nat} {v : Value} {F : Nat → Value} (h : Own W base t s v m F) {row : Option Nat} (hg : W.grownBy W' row) (hne : ∀ g, v.ownBlock = some g → row ≠ some g) : Own W' base t s v m F :=
  h.far fun k hk => hg.block k (h.kind hk).2.1 (fun e => hne k hk e.symm)
theorem Own.more {W W' : World} {base : Nat} {t : TypeId} {s m : Nat} {v : Value} {F : Nat → Value} (h : Own W base t s v m F) (hb : Below W.heap.size W W') : Own W' base t s v m F :=
  h.far fun k hk => hb.block k (h.kind hk).2.1
def ext {α : Type} (f : Nat → α) (k : Nat) (a : α) : Nat → α := fun j => if j = k then a else f j
theorem ext_at {α : Type} (f : Nat → α) (k : Nat) (a : α) : ext f k a k = a := by unfold ext; rw [if_pos rfl]
theorem ext_ne {α : Type} (f : Nat → α) (k : Nat) (a : α) {j : Nat} (h : j ≠ k) : ext f k a j = f j := by unfold ext; rw [if_neg h]

/-- n lists, written full; k of them grown; mm of those kept in a row -/
structure P2 (w wr : World) (base Lb : Nat) (t tS : TypeId) (s n k mm : Nat) (V : Nat → Value) (M : Nat → Nat) (mark : Nat → Nat → Value) (V' : Nat → Value) (M' : Nat → Nat) (F' : Nat → Nat → Value) (mv : Value) : Prop where
  ls : Lists wr base t s n V M mark
  ls' : Lists wr base t s k V' M' F'
  pos : ∀ j, j < k → (V' j).ownBlock ≠ none
  cross : ∀ j i, j < k → i < n → (V' j).ownBlock = (V i).ownBlock → i = j
  more : Own wr base tS 1 mv mm V'
  notL : mv.ownBlock ≠ some Lb
  bel : Below base w wr
  keep : wr.heap[Lb]? = w.heap[Lb]?
  lbt : ∃ cur fr, w.heap[Lb]? = some (.cells cur tS fr)
theorem P2.grow {w wr w1 : World} {base Lb : Nat} {t tS : TypeId} {s n k mm : Nat} {V : Nat → Value} {M : Nat → Nat} {mark : Nat → Nat → Value} {V' : Nat → Value} {M' : Nat → Nat} {F' : Nat → Nat → Value} {mv : Value} (h : P2 w wr base Lb t tS s n k mm V M mark V' M' F' mv) (hne : t ≠ tS) (hk : k < n) (hmm : mm ≤ k) (hbase : base ≤ wr.heap.size)
    {v' : Value} {m' : Nat} {F1 : Nat → Value} (hown : Own w1 base t s v' m' F1) (hold : Own w1 base t s (V k) (M k) (mark k)) (hg : wr.grownBy w1 (V k).ownBlock) (hat : v'.ownBlock = (V k).ownBlock ∨ v'.ownBlock = some wr.heap.size) (hp : v'.ownBlock ≠ none) :
    P2 w w1 base Lb t tS s n (k + 1) mm V M mark (ext V' k v') (ext M' k m') (ext F' k F1) mv := by
  have hfar : ∀ j, j < k → ∀ g, (V' j).ownBlock = some g → (V k).ownBlock ≠ some g := fun j hj g e1 e2 => by
    have := h.cross j k hj hk (e1.trans e2.symm)
    omega
  have hnew : ∀ j, j < k → (V' j).ownBlock ≠ v'.ownBlock := fun j hj e => by
    rcases hat with h1 | h1
    · have := h.cross j k hj hk (e.trans h1)
      omega
    · have := ((h.ls'.own j hj).kind (e.trans h1)).2.1
      omega
  refine ⟨⟨fun j hj => ?_, h.ls.apart⟩, ⟨fun j hj => ?_, fun i j hi hj hij => ?_⟩, fun j hj => ?_, fun j i hj hi e => ?_, ?_, h.notL, ?_, ?_, h.lbt⟩
  · by_cases e : j = k
    · subst e
      exact hold
    · refine (h.ls.own j hj).grown hg fun g e1 e2 => ?_
      rcases h.ls.apart j k hj hk e with h1 | h1
      · rw [h1] at e1
        cases e1
      · exact h1 (e1.trans e2.symm)
  · by_cases e : j = k
    · subst e
      rw [ext_at, ext_at, ext_at]
      exact hown
    · rw [ext_ne _ _ _ e, ext_ne _ _ _ e, ext_ne _ _ _ e]
      exact (h.ls'.own j (by omega)).grown hg (hfar j (by omega))
  · right
    by_cases e1 : i = k
    · subst e1
      rw [ext_at, ext_ne _ _ _ (by omega)]
      exact fun e => hnew j (by omega) e.symm
    · by_cases e2 : j = k
      · subst e2
        rw [ext_at, ext_ne _ _ _ e1]
        exact hnew i (by omega)
      · rw [ext_ne _ _ _ e1, ext_ne _ _ _ e2]
        rcases h.ls'.apart i j (by omega) (by omega) hij with h1 | h1
        · exact absurd h1 (h.pos i (by omega))
        · exact h1
  · by_cases e : j = k
    · subst e
      rw [ext_at]
      exact hp
    · rw [ext_ne _ _ _ e]
      exact h.pos j (by omega)
  · by_cases ej : j = k
    · subst ej
      rw [ext_at] at e
      by_cases ei : i = j
      · exact ei
      · exfalso
        rcases hat with h1 | h1
        · rcases h.ls.apart i j hi hk ei with h2 | h2
          · exact hp (e.trans h2)
          · exact h2 (e.symm.trans h1)
        · have := ((h.ls.own i hi).kind (e.symm.trans h1)).2.1
          omega
    · rw [ext_ne _ _ _ ej] at e
      exact h.cross j i (by omega) hi e
  · refine (h.more.grown hg fun g e1 e2 => ?_).congr fun j hj => (ext_ne _ _ _ (by omega)).symm
    obtain ⟨_, _, c, hc⟩ := h.more.kind e1
    exact (h.ls.own k hk).other hc hne e2
  · exact h.bel.grown hg hbase fun r e => ((h.ls.own k hk).kind e).1
  · obtain ⟨cur, fr, hc⟩ := h.lbt
    have hc' := h.keep.trans hc
    rw [hg.block Lb (Array.getElem?_eq_some_iff.1 hc').1 (fun e => (h.ls.own k hk).other hc' hne e.symm)]
    exact h.keep
theorem P2.put {w wr : World} {base Lb : Nat} {t tS : TypeId} {s n k mm : Nat} {V : Nat → Value} {M : Nat → Nat} {mark : Nat → Nat → Value} {V' : Nat → Value} {M' : Nat → Nat} {F' : Nat → Nat → Value} {mv : Value} (h : P2 w wr base Lb t tS s n (k + 1) mm V M mark V' M' F' mv) (hne : t ≠ tS) {g c : Nat} (hv : V' k = .slice (some ⟨g, 0, none⟩) (M' k) c) {o : Nat} (ho : M k * s ≤ o) (vs : List Value) :
    P2 w (wr.setCells g o vs) base Lb t tS s n (k + 1) mm V M mark V' M' (fun j => if j = k then putF (F' k) o vs else F' j) mv := by
  have hb : (V' k).ownBlock = some g := by rw [hv]; rfl
  have hkd := (h.ls'.own k (by omega)).kind hb
  refine ⟨⟨fun j hj => ?_, h.ls.apart⟩, h.ls'.put (by omega) hv o vs, h.pos, h.cross, ?_, h.notL, setCells_below _ _ _ h.bel hkd.1, ?_, h.lbt⟩
  · by_cases e : (V j).ownBlock = some g
    · have hj' : j = k := h.cross k j (by omega) hj (hb.trans e.symm)
      subst hj'
      rcases (h.ls.own j hj).form with ⟨h1, _⟩ | ⟨g', c', h1, _⟩
      · rw [h1] at e
        cases e
      · have : g' = g := by rw [h1] at e; simpa [Value.ownBlock] using e
        subst this
        have := h.ls.own j hj
        rw [h1] at this ⊢
        refine (this.put o vs).congr fun x hx => ?_
        unfold putF
        rw [if_neg (by omega)]
    · exact (h.ls.own j hj).far fun b hb' => setCells_other g vs o wr b (fun e' => e (e' ▸ hb'))
  · refine h.more.far fun b hb' => setCells_other g vs o wr b ?_
    rintro rfl
    obtain ⟨_, _, c1, hc1⟩ := hkd
    exact h.more.other hc1 (fun e => hne e.symm) hb'
  · rw [setCells_other g vs o wr Lb ?_]
    · exact h.keep
    · rintro rfl
      obtain ⟨cur, fr, hc⟩ := h.lbt
      exact (h.ls'.own k (by omega)).other (h.keep.trans hc) hne hb
theorem P2.push {w wr w1 w2 : World} {base Lb : Nat} {t tS : TypeId} {s n k mm : Nat} {V : Nat → Value} {M : Nat → Nat} {mark : Nat → Nat → Value} {V' : Nat → Value} {M' : Nat → Nat} {F' : Nat → Nat → Value} {mv mv' : Value} (h : P2 w wr base Lb t tS s n k mm V M mark V' M' F' mv) (hne : t ≠ tS) (hb : Below wr.heap.size wr w1) (hbase : base ≤ wr.heap.size) (hLb : Lb < wr.heap.size)
    (hown : Own w2 base tS 1 mv' (mm + 1) V') (hg : w1.grownBy w2 mv.ownBlock) (hat : mv'.ownBlock = mv.ownBlock ∨ mv'.ownBlock = some w1.heap.size) : P2 w w2 base Lb t tS s n k (mm + 1) V M mark V' M' F' mv' := by
  have hm1 := h.more.more hb
  have ho : ∀ {v : Value} {m : Nat} {F : Nat → Value}, Own wr base t s v m F → Own w2 base t s v m F := fun {v m F} hv => by
    refine (hv.more hb).grown hg fun g e1 e2 => ?_
    obtain ⟨_, _, c, hc⟩ := (hv.more hb).kind e1
    exact hm1.other hc (fun e => hne e.symm) e2
  refine ⟨⟨fun j hj => ho (h.ls.own j hj), h.ls.apart⟩, ⟨fun j hj => ho (h.ls'.own j hj), h.ls'.apart⟩, h.pos, h.cross, hown, ?_, ?_, ?_, h.lbt⟩
  · rcases hat with e | e
    · rw [e]
      exact h.notL
    · rw [e]
      intro e2
      injection e2 with e2
      have := hb.size
      omega
  · exact (h.bel.trans (hb.mono hbase)).grown hg (Nat.le_trans hbase hb.size) fun r e => (hm1.kind e).1
  · rw [hg.block Lb (Nat.lt_of_lt_of_le hLb hb.size) (fun e => h.notL e.symm), hb.block Lb hLb]
    exact h.keep
end Go.Proofs.YtckhliilndfljaaDoor
